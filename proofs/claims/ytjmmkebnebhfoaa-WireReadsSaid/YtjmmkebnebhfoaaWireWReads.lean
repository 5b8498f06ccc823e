/-
  The law of what a reader tells, walked.
-/
import Derived.Test.YtjmmkebnebhfoaaWireAwake
import Derived.Test.YtjmmkebnebhfoaaWireDo2
import Derived.Test.YtjmmkebnebhfoaaWireAct
import Derived.Test.YtjmmkebnebhfoaaWireApp
import Derived.Deep.RegionHeld3
set_option linter.unusedSimpArgs false
set_option linter.unusedVariables false
namespace Go.Proofs.Ytjmmkebnebhfoaa.WK
open Go.RowKit WM NR

theorem left_any (w : World) (p : Nat) (l : List UInt8) (e : Nat) (h : Rd w p l e) (he : e ≠ 0 → l = []) :
    Calls Try.prog 21 #[.pointer (some ⟨p, 0, none⟩)] w fun en w' => en = .returned (.int .i64 (l.length : Nat)) ∧ Below w.heap.size w w' := by
  by_cases h0 : e = 0
  · subst h0; exact rleft_good w p l h
  · have := he h0
    subst this
    exact rleft_dead w _ e (dead_of h h0)
/-- what stands at the head of each round -/
def Both (w : World) (p X : Nat) (l : List UInt8) (vi : Value) (wr : World) : Prop :=
  ∃ vx e l', Rd wr p l' e ∧ Reads (· < p) wr vx (u8s l') ∧ (e ≠ 0 → l' = []) ∧ l'.length ≤ l.length ∧ wr.heap[X]? = some (.cells #[vx, .int .i64 ((e : Nat) : Int)] 34 (0, 0)) ∧ Below w.heap.size w wr ∧
    wr.ownsRow w.heap.size 5 1 vi l.length (u8s l)
theorem both_at {w U F : World} {p X e : Nat} {l l' : List UInt8} {vi vx : Value} (h1 : Rd U p l' e) (h2 : Reads (· < p) U vx (u8s l')) (h3 : e ≠ 0 → l' = []) (h4 : l'.length ≤ l.length)
    (h5 : U.heap[X]? = some (.cells #[vx, .int .i64 ((e : Nat) : Int)] 34 (0, 0))) (h6 : Below w.heap.size w U) (h7 : U.ownsRow w.heap.size 5 1 vi l.length (u8s l)) (hF : Below U.heap.size U F) : Both w p X l vi F :=
  ⟨vx, e, l', h1.keep hF, reads_on h2 (fun g hg => Nat.lt_trans hg h1.lt) hF, h3, h4, (hF.block _ (lt_of_block h5)).trans h5, below_of h6 hF, owns_below h7 hF⟩
set_option maxHeartbeats 1000000 in
theorem WireReads_walk (l : List UInt8) (n : Nat) (v va : Value) (w : World) (hr : Reads (· < w.heap.size) w v (u8s l)) (ha : Acts w.heap.size w va n) (hl : l.length ≤ 140737488351232) :
    Calls Try.prog 4 #[v, va] w fun e w' => e = .returned (.bool true) ∧ Below w.heap.size w w' := by
  obtain ⟨i0, hi, hz0, hz1, hz2⟩ := info_parts infoByte
  have HRD := Lib.hid hr
  have HAC := Lib.hid ha
  obtain ⟨a, c, rfl, _, _⟩ := hr.shape
  obtain ⟨aa, ca, rfl, hnca, hcam, _⟩ := ha
  have hn64 : (n : Int) ≤ 9223372036854775807 := by unfold maxLen at hcam; omega
  rw [u8s_len] at *
  have hown := World.ownsRow_lit (e := 5) (base := w.heap.size) (size := 1) w #[] 0 (Nat.le_refl _) (by simp [maxLen]) rfl
  have hnm : 0 + (u8s l).length ≤ maxLen := by rw [u8s_len]; unfold maxLen; omega
  have hnb : (0 + (u8s l).length) * 1 ≤ 140737488355328 := by rw [u8s_len]; omega
  have hra := hr.alloc (.cells #[] 5)
  clear hr
  go_enter Try.func4, Try.ntmps4
  go_wp2_with (at_builtin; refine wpList_append_reads _ rfl _ _ 24 rfl w.heap.size 5 i0 (.int .u8 0) 1 Try.underlying24 hi hz0 hz1 hz2 rfl _ _ _ rfl hown _ _ (u8s l) rfl hra (u8s_one _) hnm hnb (by simp) ?_)
  intro v1 w1 hown1 hgrow
  have hb1 : Below w.heap.size w w1 := (below_new w _).grown hgrow (by simp) (fun g hg => (hown.lt g hg).1)
  have hown1' : w1.ownsRow w.heap.size 5 1 v1 l.length (u8s l) := by
    rw [u8s_len] at hown1
    simpa using hown1
  have hrd1 : Reads (· < w1.heap.size) w1 v1 (u8s l) := (Reads.of_owns hown1').there.mono fun g hg => hg.2
  have CN := Lib.hid (new_any l v1 w1 hrd1 (by omega))
  obtain ⟨a1, n1, c1, rfl⟩ := hrd1.form
  have HO1 := Lib.hid hown1'
  have HB1 := Lib.hid hb1
  clear hown1 hown1' hgrow hrd1 hb1 hown hra
  go_wp2_with fail
  refine CN.out.mono ?_
  rintro e w2 ⟨p, rfl, hp, hr2, hb2⟩
  have HO2 := Lib.hid (owns_below HO1.out hb2)
  have HB2 := Lib.hid (below_of HB1.out hb2)
  have HR2 := Lib.hid hr2
  have HP := Lib.hid hp
  clear hr2 hb2 hp
  have hpX : Hid (w.heap.size ≤ p ∧ p < w2.heap.size ∧ (∀ g, (Value.slice a1 n1 c1).ownBlock = some g → g < p)) := ⟨by have := HP.out; have := HB1.out.size; omega, HR2.out.lt, fun g hg => by have := (HO1.out.lt g hg).2; have := HP.out; omega⟩
  have start : Both w p w2.heap.size l (.slice a1 n1 c1) (w2.alloc (.cells #[.slice a l.length c, .int .i64 0] 34)) :=
    ⟨_, 0, l, HR2.out.keep (below_new w2 _), by
      refine Reads.mono (reads_on HRD.out (fun g hg => hg) ((HB2.out).trans ((below_new w2 _).mono HB2.out.size))) (fun g hg => ?_)
      have := hpX.out.1; omega, fun h => absurd rfl h, Nat.le_refl _, heap_alloc_new w2 _, HB2.out.trans ((below_new w2 _).mono HB2.out.size), HO2.out.alloc _⟩
  have START := Lib.hid start
  have HXS : Hid (w2.heap.size < (w2.alloc (.cells #[.slice a l.length c, .int .i64 0] 34)).heap.size) := by show _ < _; simp
  clear start
  go_wp2_with fail
  go_loopw [8, 9] (fun b i wr => ∃ k : Nat, k ≤ n ∧ i = .int .i64 (k : Int) ∧ b = .bool true ∧ Hid (Both w p w2.heap.size l (.slice a1 n1 c1) wr)) (fun _ i _ => n - (intOf i).toNat)
  case atStart => exact ⟨0, by omega, rfl, rfl, START.out⟩
  case round =>
    obtain ⟨k, hk, rfl, rfl, HBO⟩ := hrel
    obtain ⟨vx, e, l', h1, h2, h3, h4, h5, h6, h7⟩ := HBO.out
    clear HBO
    by_cases hlt : k < n
    · have hlt' : (k : Int) < n := by omega
      obtain ⟨aa', ca', ea, hca, _, hrest⟩ := HAC.out.keep h6
      simp only [Value.slice.injEq, true_and] at ea
      obtain ⟨rfl, rfl⟩ := ea
      rcases hrest with hn0 | ⟨ga, offa, rfl, hga, hcells⟩
      · omega
      · obtain ⟨K, Mo, k1, k2, k3, k4, ck0, ck1⟩ := hcells k hlt
        have x0 : wr.cell? ⟨w2.heap.size, 0, none⟩ = some vx := block_cell h5 0
        have x1 : wr.cell? ⟨w2.heap.size, 1, none⟩ = some (.int .i64 (e : Int)) := block_cell h5 1
        have CD := Lib.hid (do_any wr.drew p vx l' e K Mo (h1.drewN 1) (h2.drewN 1) (by omega) h3 ⟨k1, k2⟩ ⟨k3, k4⟩)
        obtain ⟨ax, nx, cx, rfl⟩ := h2.form
        have H5 := Lib.hid h5
        have H6 := Lib.hid h6
        have H7 := Lib.hid h7
        have H4 := Lib.hid h4
        clear h1 h2 h3 h4 h5 h6 h7 hcells
        have HpX := Lib.hid hpX
        go_wp2_with fail
        go_region_with (go_at_call 19; refine CD.out.mono ?_; rintro en w4 ⟨v4, e4, l4, rfl, hg4, hr4, hd4, hdead4, hlen4⟩; obtain ⟨ax4, nx4, cx4, rfl⟩ := hd4.form; have hX4 : w4.heap[w2.heap.size]? = some (.cells #[.slice ax nx cx, .int .i64 (e : Int)] 34 (0, 0)) := (hg4.block _ (lt_of_block H5.out) (fun ee => by have := Option.some.inj ee; have := hpX.out.2.1; omega)).trans H5.out; have y0 := block_cell hX4 0; have y1 := block_cell hX4 1; have fy0 := block_free hX4 0; have fy1 := block_free hX4 1; simp only [List.getElem?_toArray, List.getElem?_cons_zero, List.getElem?_cons_succ] at y0 y1)
        all_goals go_wp2_with fail
        all_goals obtain ⟨U, hU⟩ : ∃ U, U = ((w4.setCell ⟨w2.heap.size, 0, none⟩ (.slice ax4 nx4 cx4)).setCell ⟨w2.heap.size, 1, none⟩ (.int .i64 (e4 : Int))) := ⟨_, rfl⟩
        all_goals rw [← hU]
        all_goals have hUX : U.heap[w2.heap.size]? = some (.cells #[.slice ax4 nx4 cx4, .int .i64 (e4 : Int)] 34 (0, 0)) := by rw [hU]; exact block_set (block_set hX4 0 _) 1 _
        all_goals have hFU : Below (p + 1) w4 U := by rw [hU]; exact below_sets (Below.refl _ _) (by have := hpX.out.2.1; omega)
        all_goals have hRU : Rd U p l4 e4 := hr4.far hFU (by omega)
        all_goals have hDU : Reads (· < p) U (.slice ax4 nx4 cx4) (u8s l4) := reads_on hd4 (fun g hg => hg) (hFU.mono (by omega))
        all_goals have hBU : Below w.heap.size w U := below_then (p := p) (B := w.heap.size) H6.out.drew hg4 hpX.out.1 (by have := H6.out.size; simpa using this) |>.trans (hFU.mono (by have := hpX.out.1; omega))
        all_goals have hOU : U.ownsRow w.heap.size 5 1 (.slice a1 n1 c1) l.length (u8s l) := (World.ownsRow.kept (w := w4) (w' := U) (row := some w2.heap.size) ((World.ownsRow.kept (w := wr.drew) (w' := w4) H7.out.drew hg4 (Or.inr (fun ee => by have := hpX.out.2.2 p ee; omega)))) ⟨by rw [hU]; rfl, by rw [hU]; rfl, by rw [hU]; rfl, by rw [hU]; simp, fun g hg hne => by rw [hU, Below.heap_setCell _ _ _ _ (fun ee => hne (by rw [ee])), Below.heap_setCell _ _ _ _ (fun ee => hne (by rw [ee]))]⟩ (Or.inr (fun ee => by have := hpX.out.2.2 _ ee; have := hpX.out.2.1; omega)))
        all_goals have z0 : ∀ u, Below U.heap.size U u → u.cell? ⟨w2.heap.size, 0, none⟩ = some (.slice ax4 nx4 cx4) := fun u hu => (hu.cell (p := ⟨w2.heap.size, 0, none⟩) (lt_of_block hUX)).trans (block_cell hUX 0)
        all_goals have z1 : ∀ u, Below U.heap.size U u → u.cell? ⟨w2.heap.size, 1, none⟩ = some (.int .i64 (e4 : Int)) := fun u hu => (hu.cell (p := ⟨w2.heap.size, 1, none⟩) (lt_of_block hUX)).trans (block_cell hUX 1)
        all_goals have CE := Lib.hid (fun (u : World) (hu : Below U.heap.size U u) => err_any u p l4 e4 (hRU.keep hu))
        all_goals have CL := Lib.hid (fun (u : World) (hu : Below U.heap.size U u) => left_any u p l4 e4 (hRU.keep hu) hdead4)
        all_goals have hlen : nx4 = l4.length := by obtain ⟨aa5, cc5, e5, _, _⟩ := hDU.shape; rw [u8s_len] at e5; simp only [Value.slice.injEq] at e5; exact e5.2.1
        all_goals subst hlen
        all_goals have HUX := Lib.hid hUX
        all_goals have HRU := Lib.hid hRU
        all_goals have HDU := Lib.hid hDU
        all_goals have HBU := Lib.hid hBU
        all_goals have HOU := Lib.hid hOU
        all_goals have HDD := Lib.hid hdead4
        all_goals have HLL := Lib.hid (Nat.le_trans hlen4 H4.out)
        all_goals clear hU hUX hFU hRU hDU hBU hOU hdead4 hlen4 hX4 y0 y1 fy0 fy1 hg4 hr4 hd4 x0 x1 ck0 ck1 CD
        all_goals generalize hmm : l4.length = m4 at CL z0 ⊢
        all_goals have hmm' := Lib.hid hmm
        all_goals clear hmm
        all_goals go_region_held3 (fun u => Below U.heap.size U u) (first | assumption | exact Below.drew (Below.refl _ _) | exact Below.drew (by assumption) | exact below_of (by assumption) (by assumption)) (first | (go_at_call 20; refine (CE.out _ (by assumption)).mono ?_; rintro en w5 ⟨rfl, rfl⟩) | (go_at_call 21; refine (CL.out _ (by assumption)).mono ?_; rintro en w6 ⟨rfl, hb6⟩))
        all_goals go_wp2_with fail
        all_goals (go_roundw; (case rel => exact ⟨k + 1, by omega, by go_num, rfl, both_at HRU.out HDU.out HDD.out HLL.out HUX.out HBU.out HOU.out (by first | assumption | exact below_of (by assumption) (by assumption))⟩); (case measure => simp [intOf]; omega))
    · have hnk : ¬ (k : Int) < n := by omega
      have kc1 := owns_text h7 (Below.refl _ _)
      have kc2 := (reads_on HRD.out (fun g hg => hg) h6).text (P := Try.prog) (dst := 9) Try.underlying24 Try.underlying5 Try.underlying9
      have AW := Lib.hid (awakeS wr)
      have H6 := Lib.hid h6
      clear h1 h2 h3 h4 h5 h6 h7
      go_wp2_with (go_at_call 17; refine AW.out.mono ?_; rintro e w5 ⟨rfl, hb5⟩)
      go_ret
      exact ⟨rfl, below_of H6.out hb5⟩
end Go.Proofs.Ytjmmkebnebhfoaa.WK
