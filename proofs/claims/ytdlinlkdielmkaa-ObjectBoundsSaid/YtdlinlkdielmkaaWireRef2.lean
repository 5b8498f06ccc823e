/-
  The reference's reader: so many bytes, texts, words.
-/
import Derived.Test.YtdlinlkdielmkaaWireRef
import Derived.Test.YtdlinlkdielmkaaWireRd5
import Derived.RegionTactic
set_option linter.unusedSimpArgs false
set_option linter.unusedVariables false
namespace Go.Proofs.Ytdlinlkdielmkaa.NR
open Go.RowKit WM

/-- the reference's reader behind the call, and bytes -/
def IsRefB (G : Nat → Prop) (w : World) (e : Nat) (l x : List UInt8) (en : Ending) (w' : World) : Prop :=
  ∃ v v2, en = .returned (.tuple #[.agg #[v, .int .i64 (e : Int)], v2]) ∧ Reads G w' v (u8s l) ∧ Reads G w' v2 (u8s x) ∧ Below w.heap.size w w'
theorem isRefB_mk {G : Nat → Prop} {w w' : World} {e : Nat} {l x : List UInt8} {v v2 : Value} (hG : ∀ g, G g → g < w.heap.size) (h1 : Reads G w v (u8s l)) (h2 : Reads G w v2 (u8s x)) (hb : Below w.heap.size w w') :
    IsRefB G w e l x (.returned (.tuple #[.agg #[v, .int .i64 (e : Int)], v2])) w' :=
  ⟨v, v2, rfl, h1.keep fun g hg _ => hb.block g (hG g hg), h2.keep fun g hg _ => hb.block g (hG g hg), hb⟩
theorem isRef_mk {G : Nat → Prop} {w w' : World} {e : Nat} {l : List UInt8} {v x : Value} (hG : ∀ g, G g → g < w.heap.size) (h1 : Reads G w v (u8s l)) (hb : Below w.heap.size w w') :
    IsRef G w e l x (.returned (.tuple #[.agg #[v, .int .i64 (e : Int)], x])) w' :=
  ⟨v, rfl, h1.keep fun g hg _ => hb.block g (hG g hg), hb⟩
theorem refTake_dead (G : Nat → Prop) (w : World) (v : Value) (l : List UInt8) (e : Nat) (M : Int) (hG : ∀ g, G g → g < w.heap.size) (hr : Reads G w v (u8s l)) (he : e ≠ 0) :
    Calls Try.prog 74 #[.agg #[v, .int .i64 (e : Int)], .int .i64 M] w (IsRefB G w e l []) := by
  have HR := Lib.hid hr
  obtain ⟨a, n, c, rfl⟩ := hr.form
  have he' : ((e : Int) != 0) = true := by simp; omega
  clear hr he
  go_enter Try.func74, Try.ntmps74
  go_wp2
  have hb := below_new2 w (.cells #[.slice a n c, .int .i64 (e : Int)] 75) (.cells #[.slice a n c, .int .i64 (e : Int)] 75)
  exact bodyPost_ret (v := .tuple #[.agg #[.slice a n c, .int .i64 (e : Int)], .slice none 0 0]) (by simp [results, Try.results74, go_sem]) rfl ⟨_, _, rfl, HR.out.keep fun g hg _ => hb.block g (hG g hg), Reads.nil _ _, hb⟩
theorem refTake_no (G : Nat → Prop) (w : World) (v : Value) (l : List UInt8) (n : Nat) (hG : ∀ g, G g → g < w.heap.size) (hr : Reads G w v (u8s l)) (hn : l.length < n) :
    Calls Try.prog 74 #[.agg #[v, .int .i64 0], .int .i64 (n : Int)] w (IsRefB G w 3 [] []) := by
  obtain ⟨a, c, rfl, _, _⟩ := hr.shape
  rw [u8s_len]
  clear hr
  go_enter Try.func74, Try.ntmps74
  go_wp2_with (go_in)
  refine bodyPost_ret (v := .agg #[.slice none 0 0, .int .i64 3]) (by simp [results, Try.results75, go_sem]) rfl ?_
  go_wp2_with fail
  refine bodyPost_ret (v := .tuple #[.agg #[.slice none 0 0, .int .i64 3], .slice none 0 0]) (by simp [results, Try.results74, go_sem]) rfl ?_
  refine ⟨_, _, rfl, Reads.nil _ _, Reads.nil _ _, ?_⟩
  repeat (first | exact Below.refl _ _ | refine Below.alloc ?_ (by simp; try omega) _ | refine Below.setCell ?_ (by simp; try omega) _)
theorem refTake_yes (G : Nat → Prop) (w : World) (v : Value) (l : List UInt8) (n : Nat) (hG : ∀ g, G g → g < w.heap.size) (hr : Reads G w v (u8s l)) (hn : n ≤ l.length) :
    Calls Try.prog 74 #[.agg #[v, .int .i64 0], .int .i64 (n : Int)] w (IsRefB G w 0 (l.drop n) (l.take n)) := by
  obtain ⟨v1, r1, d1⟩ := hr.take (P := Try.prog) elemBytes sizeBytes n (by rw [u8s_len]; exact hn)
  obtain ⟨v2, r2, d2⟩ := hr.drop (P := Try.prog) elemBytes sizeBytes n (by rw [u8s_len]; exact hn)
  rw [← u8s_take] at d1
  rw [← u8s_drop] at d2
  have D1 := Lib.hid d1
  have D2 := Lib.hid d2
  obtain ⟨a, c, rfl, _, _⟩ := hr.shape
  obtain ⟨a1, m1, c1, rfl⟩ := d1.form
  obtain ⟨a2, m2, c2, rfl⟩ := d2.form
  rw [u8s_len] at *
  have hn' : ¬ l.length < n := by omega
  clear hr d1 d2
  generalize l.length = L at *
  go_enter Try.func74, Try.ntmps74
  go_wp2_with fail
  go_region
  go_wp2_with fail
  refine bodyPost_ret (v := .tuple #[.agg #[.slice a2 m2 c2, .int .i64 0], .slice a1 m1 c1]) (by simp [results, Try.results74, go_sem]) rfl ?_
  refine isRefB_mk hG D2.out D1.out ?_
  repeat (first | exact Below.refl _ _ | refine Below.drew ?_ | refine Below.alloc ?_ (by simp; try omega) _ | refine Below.setCell ?_ (by simp; try omega) _)
theorem refTake_any (G : Nat → Prop) (w : World) (v : Value) (l : List UInt8) (n : Nat) (hG : ∀ g, G g → g < w.heap.size) (hr : Reads G w v (u8s l)) :
    Calls Try.prog 74 #[.agg #[v, .int .i64 0], .int .i64 (n : Int)] w (IsRefB G w (if n ≤ l.length then 0 else 3) (if n ≤ l.length then l.drop n else []) (if n ≤ l.length then l.take n else [])) := by
  by_cases hn : n ≤ l.length
  · rw [if_pos hn, if_pos hn, if_pos hn]; exact refTake_yes G w v l n hG hr hn
  · rw [if_neg hn, if_neg hn, if_neg hn]; exact refTake_no G w v l n hG hr (by omega)
theorem bcell {W w1 : World} (hb : Below W.heap.size W w1) : (∀ b o, b < W.heap.size → w1.cell? ⟨b, o, none⟩ = W.cell? ⟨b, o, none⟩) ∧ (∀ b o, b < W.heap.size → w1.frozen? ⟨b, o, none⟩ = W.frozen? ⟨b, o, none⟩) :=
  ⟨fun b o h => hb.cell (p := ⟨b, o, none⟩) h, fun b o h => hb.frozen (p := ⟨b, o, none⟩) h⟩
theorem two_blocks {w w1 : World} {cs cs' : Array Value} {T T' : TypeId} (hb : Below ((w.alloc (.cells cs T)).alloc (.cells cs' T')).heap.size ((w.alloc (.cells cs T)).alloc (.cells cs' T')) w1) :
    w1.heap[w.heap.size]? = some (.cells cs T (0, 0)) ∧ w1.heap[w.heap.size + 1]? = some (.cells cs' T' (0, 0)) := by
  constructor
  · rw [hb.block _ (by simp; omega), Below.heap_alloc _ _ _ (by simp)]
    exact heap_alloc_new w _
  · rw [hb.block _ (by simp)]
    have := heap_alloc_new (w.alloc (.cells cs T)) (.cells cs' T')
    simpa using this
theorem two_sets {w1 w3 : World} {A : Nat} {x y p q : Value} {cs' : Array Value} {T T' : TypeId} (hA : w1.heap[A]? = some (.cells #[p, q] T (0, 0))) (hB : w1.heap[A + 1]? = some (.cells cs' T' (0, 0)))
    (hb : Below ((w1.setCell ⟨A, 0, none⟩ x).setCell ⟨A, 1, none⟩ y).heap.size ((w1.setCell ⟨A, 0, none⟩ x).setCell ⟨A, 1, none⟩ y) w3) :
    w3.heap[A]? = some (.cells #[x, y] T (0, 0)) ∧ w3.heap[A + 1]? = some (.cells cs' T' (0, 0)) := by
  have hlA := lt_of_block hA
  have hlB := lt_of_block hB
  constructor
  · rw [hb.block _ (by simp; omega)]
    exact block_set (block_set hA 0 x) 1 y
  · rw [hb.block _ (by simp; omega), Below.heap_setCell _ _ _ _ (by simp), Below.heap_setCell _ _ _ _ (by simp)]
    exact hB
theorem reads_on {G : Nat → Prop} {B : Nat} {w w' : World} {v : Value} {xs : List Value} (h : Reads G w v xs) (hG : ∀ g, G g → g < B) (hb : Below B w w') : Reads G w' v xs := h.keep fun g hg _ => hb.block g (hG g hg)
theorem below_sets {B A : Nat} {w u : World} {x y : Value} (h : Below B w u) (hA : B ≤ A) : Below B w ((u.setCell ⟨A, 0, none⟩ x).setCell ⟨A, 1, none⟩ y) := (h.setCell hA x).setCell hA y
theorem rdVar_num (m : Nat) (l : List UInt8) : (rdVar m l).2.1 ≤ 4294967295 := by
  by_cases h : (vr m 5 0 0 l).1 = 0
  · exact (vr_good m 5 0 0 l h).2.1
  · have := vr_none m 5 0 0 l h
    show (vr m 5 0 0 l).2.1 ≤ _
    rw [this]
    omega
theorem capM_other (M : Int) : min (max 0 M) 4294967295 = ((capM M : Nat) : Int) := by unfold capM; omega
/-- the reference's Text: where nothing is wrong yet -/
theorem refText_good (G : Nat → Prop) (w : World) (v : Value) (l a b : List UInt8) (k : Nat) (M : Int) (hG : ∀ g, G g → g < w.heap.size) (hr : Reads G w v (u8s l)) (hM : -9223372036854775808 ≤ M ∧ M ≤ 9223372036854775807) (hv : rdBytes (capM M) 1 l = (k, a, b)) :
    Calls Try.prog 44 #[.agg #[v, .int .i64 0], .int .i64 M] w (IsRef G w k b (.string (bs a))) := by
  have hcap := capM_other M
  have hml := capM_lt M
  generalize capM M = m at *
  obtain ⟨hM1, hM2⟩ := hM
  have HG := Lib.hid hG
  obtain ⟨k0, n, l', hvr⟩ : ∃ k n l', rdVar m l = (k, n, l') := ⟨_, _, _, rfl⟩
  have CV := Lib.hid (fun (u : World) (hu : Below w.heap.size w u) => rrVar_any G u v l m (fun g hg => Nat.lt_of_lt_of_le (hG g hg) hu.size) (hr.keep fun g hg _ => hu.block g (hG g hg)) hml k0 n l' hvr)
  obtain ⟨av, nv, cv, rfl⟩ := hr.form
  have HV := Lib.hid hv
  have HVR := Lib.hid hvr
  have hnb : (n : Int) ≤ 4294967295 := by
    have h0 := rdVar_num m l
    rw [hvr] at h0
    have h1 : n ≤ 4294967295 := h0
    omega
  have hml' : (m : Int) < 4294967296 := by omega
  clear hr hv hG hvr hml
  generalize hmz : (m : Int) = mz at *
  clear hmz
  go_enter Try.func44, Try.ntmps44
  go_wp2_with fail
  refine (CV.out _ (by repeat (first | exact Below.refl _ _ | refine Below.drew ?_ | refine Below.alloc ?_ (by simp; try omega) _ | refine Below.setCell ?_ (by simp; try omega) _))).mono ?_
  rintro e w1 ⟨v1, rfl, d1, hb1⟩
  obtain ⟨bA, bB⟩ := two_blocks hb1
  have cA0 : w1.cell? ⟨w.heap.size, 0, none⟩ = some (.slice av nv cv) := block_cell bA 0
  have cA1 : w1.cell? ⟨w.heap.size, 1, none⟩ = some (.int .i64 0) := block_cell bA 1
  have cB0 : w1.cell? ⟨w.heap.size + 1, 0, none⟩ = some (.slice none 0 0) := block_cell bB 0
  have cB1 : w1.cell? ⟨w.heap.size + 1, 1, none⟩ = some (.int .i64 0) := block_cell bB 1
  have fA0 := block_free bA 0
  have fA1 := block_free bA 1
  have fB0 := block_free bB 0
  have fB1 := block_free bB 1
  have BA := Lib.hid bA
  have BB := Lib.hid bB
  clear bA bB
  have hz1 : w.heap.size + 1 < w1.heap.size := by have := hb1.size; simp at this; omega
  have D1 := Lib.hid d1
  obtain ⟨a1, n1, c1, rfl⟩ := d1.form
  clear d1
  have hw1 : Below w.heap.size w w1 := (below_new2 w _ _).trans (hb1.mono (by simp; omega))
  have HW1 := Lib.hid hw1
  clear hw1 hb1
  have CT0 : ∀ u, Below w.heap.size w1 u → Calls Try.prog 74 #[.agg #[.slice a1 n1 c1, .int .i64 (k0 : Int)], .int .i64 (n : Int)] u (IsRefB G u k b a) := by
    intro u hu
    have hGu : ∀ g, G g → g < u.heap.size := fun g hg => Nat.lt_of_lt_of_le (HG.out g hg) (Nat.le_trans HW1.out.size hu.size)
    have hv := HV.out
    unfold rdBytes at hv
    rw [HVR.out] at hv
    by_cases hk : k0 = 0
    · subst hk
      simp only [if_true, Nat.mul_one] at hv
      have := refTake_any G u (.slice a1 n1 c1) l' n hGu (reads_on D1.out HG.out hu)
      by_cases hn : n ≤ l'.length
      · rw [if_pos hn] at hv this
        rw [if_pos hn, if_pos hn] at this
        obtain ⟨rfl, h2⟩ := Prod.mk.inj hv
        obtain ⟨rfl, rfl⟩ := Prod.mk.inj h2
        exact this
      · rw [if_neg hn] at hv this
        rw [if_neg hn, if_neg hn] at this
        obtain ⟨rfl, h2⟩ := Prod.mk.inj hv
        obtain ⟨rfl, rfl⟩ := Prod.mk.inj h2
        exact this
    · simp only [if_neg hk] at hv
      obtain ⟨rfl, h2⟩ := Prod.mk.inj hv
      obtain ⟨rfl, rfl⟩ := Prod.mk.inj h2
      have hz := vr_none m 5 0 0 l (by have e1 : (vr m 5 0 0 l).1 = k0 := congrArg (·.1) HVR.out; rw [e1]; exact hk)
      have e2 : (n, l') = (0, []) := by
        have e3 : (vr m 5 0 0 l).2 = (n, l') := congrArg (·.2) HVR.out
        rw [← e3]; exact hz
      obtain ⟨rfl, rfl⟩ := Prod.mk.inj e2
      exact refTake_dead G u (.slice a1 n1 c1) [] k0 0 hGu (reads_on D1.out HG.out hu) hk
  have CT := Lib.hid CT0
  clear CT0
  go_wp2_with fail
  refine (CT.out _ ?hcb).mono ?_
  case hcb => exact below_sets (Below.refl _ _) (Nat.le_refl _)
  rintro e w3 ⟨v3, v4, rfl, d3, d4, hb3⟩
  obtain ⟨bA3, bB3⟩ := two_sets BA.out BB.out hb3
  have hw3 : Below w.heap.size w w3 := (below_sets HW1.out (Nat.le_refl _)).trans (hb3.mono (by simp; have := HW1.out.size; omega))
  have HW3 := Lib.hid hw3
  obtain ⟨a4, n4, c4, rfl⟩ := d4.form
  have hb4 : Below w.heap.size w3 (((w3.setCell ⟨w.heap.size, 0, none⟩ v3).setCell ⟨w.heap.size, 1, none⟩ (.int .i64 (k : Int))).drew) := (below_sets (Below.refl _ _) (Nat.le_refl _)).drew
  have kc := (reads_on d4 HG.out hb4).text (P := Try.prog) (dst := 9) Try.underlying30 Try.underlying5 Try.underlying9
  have hb5 : Below w.heap.size w3 (((((w3.setCell ⟨w.heap.size, 0, none⟩ v3).setCell ⟨w.heap.size, 1, none⟩ (.int .i64 (k : Int))).setCell ⟨w.heap.size + 1, 0, none⟩ v3).setCell ⟨w.heap.size + 1, 1, none⟩ (.int .i64 (k : Int))).drew) := (below_sets (below_sets (Below.refl _ _) (Nat.le_refl _)) (by omega)).drew
  have kc2 := (reads_on d4 HG.out hb5).text (P := Try.prog) (dst := 9) Try.underlying30 Try.underlying5 Try.underlying9
  have HB5 := Lib.hid hb5
  have D3 := Lib.hid d3
  obtain ⟨a3, n3, c3, rfl⟩ := d3.form
  clear d3 d4 hb4 hb5 hw3 hb3 cA0 cA1 cB0 cB1 fA0 fA1 fB0 fB1
  have cA0 : w3.cell? ⟨w.heap.size, 0, none⟩ = some (.slice a1 n1 c1) := block_cell bA3 0
  have cA1 : w3.cell? ⟨w.heap.size, 1, none⟩ = some (.int .i64 (k0 : Int)) := block_cell bA3 1
  have cB0 : w3.cell? ⟨w.heap.size + 1, 0, none⟩ = some (.slice none 0 0) := block_cell bB3 0
  have cB1 : w3.cell? ⟨w.heap.size + 1, 1, none⟩ = some (.int .i64 0) := block_cell bB3 1
  have fA0 := block_free bA3 0
  have fA1 := block_free bA3 1
  have fB0 := block_free bB3 0
  have fB1 := block_free bB3 1
  clear bA3 bB3
  go_wp2_with fail
  go_region
  go_wp2_with fail
  refine bodyPost_ret (v := .tuple #[.agg #[.slice a3 n3 c3, .int .i64 (k : Int)], .string (bs a)]) (by simp [results, Try.results44, go_sem, cA0, cA1, cB0, cB1]) rfl ?_
  exact ⟨_, rfl, reads_on D3.out HG.out HB5.out, HW3.out.trans HB5.out⟩
end Go.Proofs.Ytdlinlkdielmkaa.NR
