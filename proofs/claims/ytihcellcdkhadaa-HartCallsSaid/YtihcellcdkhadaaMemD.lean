/-
  Joined texts: MemSto, MemRNew. Nothing here is a statement of the seed.
-/
import Derived.Test.YtihcellcdkhadaaMemC
import Derived.BigRegion
set_option linter.unusedSimpArgs false
set_option linter.unusedVariables false
/-
  Words stored into the reference's memory. Nothing here is a statement of the seed.
-/
namespace Go.Proofs.Ytihcellcdkhadaa.MF
open Go.RowKit PM PR PF MM MR

end Go.Proofs.Ytihcellcdkhadaa.MF

/-
  A new memory: the reference's. Nothing here is a statement of the seed.
-/
namespace Go.Proofs.Ytihcellcdkhadaa.MF
open Go.RowKit PM PR PF MM MR

/-- a memory told, all of its blocks new -/
def NewRm (M : Mm) (w : World) (e : Ending) (w' : World) : Prop := ∃ gr c gw d, e = .returned (rV M.gt gr M.pg.length c gw M.ws.length d) ∧ Rm w' gr c gw d M ∧ w.heap.size ≤ gr ∧ w.heap.size ≤ gw ∧ Below w.heap.size w w'
theorem made_zero (n : Nat) : (madeCells (Value.int .u32 0).cells (n * 1)) = (wcs (List.replicate n 0)).toArray := by
  have := made_words n
  rw [← this]
theorem make_words (n : Nat) (hn : n ≤ 4096) (X : Int) (hX : X = (n : Int)) (u : World) : (Instr.makeSlice 24 (.int .i64 X) (.int .i64 X)).run Try.prog u = .ok (.slice (some ⟨u.heap.size, 0, none⟩) n n) (u.alloc (.cells (wcs (List.replicate n 0)).toArray 22)) := by
  subst hX
  obtain ⟨i0, hi, hz0, hz1, hz2⟩ := info_parts infoU32
  have := run_make (P := Try.prog) u 24 22 i0 _ Try.underlying24 hi hz0 .i64 .i64 n n (by omega) (Int.le_refl _) (by rw [hz2]; omega) (by omega)
  rw [hz1, Int.toNat_natCast, made_zero] at this
  exact this
theorem putZ_eq (w : World) (b : Nat) (gr n c gw m d : Nat) : (((((((((w.setCell ⟨b, 0, none⟩ (.int .u32 0)).setCell ⟨b, 1, none⟩ (.int .u32 0)).setCell ⟨b, 2, none⟩ (.int .u32 0)).setCell ⟨b, 3, none⟩ (.int .u32 0)).setCell ⟨b, 4, none⟩ (.int .u32 0)).setCell ⟨b, 5, none⟩ (.int .u32 0)).setCell ⟨b, 6, none⟩ (.int .u32 0)).setCell ⟨b, 7, none⟩ (.int .u32 0)).setCell ⟨b, 8, none⟩ (.slice (some ⟨gr, 0, none⟩) n c)).setCell ⟨b, 9, none⟩ (.slice (some ⟨gw, 0, none⟩) m d) = putB w b (fun _ => 0) gr n c gw m d := putB_eq w b (fun _ => 0) gr n c gw m d
theorem drew_whole {w : World} {b : Nat} {t : TypeId} {cs : Array Value} (h : Whole w b t cs) : Whole w.drew b t cs := h
theorem drew_rm {w : World} {gr c gw d : Nat} {M : Mm} (h : Rm w gr c gw d M) : Rm w.drew gr c gw d M := ⟨h.row, h.wr, h.c1, h.c2, h.d1, h.d2⟩
set_option maxHeartbeats 400000 in
set_option maxRecDepth 10000 in
theorem newR_any (k : Int) (w : World) : Calls Try.prog 26 #[.int .i64 k] w (NewRm (newM (min (max k 0) 256).toNat) w) := by
  have CN := Lib.hid (fun u => refNew_any k u)
  have hN : (min (max k 0) 256).toNat ≤ 256 := by omega
  generalize (min (max k 0) 256).toNat = n at *
  have hn1 : (n : Int) ≤ 256 := by omega
  have hn0 : (0 : Int) ≤ n := by omega
  have hX : IntKind.i64.wrap (16 * (n : Int)) = ((n * 16 : Nat) : Int) := by rw [IntKind.wrap_i64]; omega
  have hmk := make_words (n * 16) (by omega) _ hX
  have hmk2 := make_words (n * 16) (by omega) (16 * (n : Int)) (by omega)
  clear hX
  have B2 := Whole.new w 41 zCs
  have hb0 := below_new w (.cells zCs 41)
  go_enter Try.func26, Try.ntmps26
  go_wp2_with (go_at_call 46; (with_reducible refine (CN.out _).mono ?_); rintro e w1 ⟨g, c, rfl, hR, hg, hb⟩; have B3 := B2.belowS hb; obtain ⟨⟨v0, v1, v2, v3, v4, v5, v6, v7, v8, v9, e0, e1, e2, e3, e4, e5, e6, e7, e8, e9⟩, f0, f1, f2, f3, f4, f5, f6, f7, f8, f9⟩ := box_open B3 rfl; have l2 := B3.lt; have HR := Lib.hid hR; clear hR)
  go_region
  rw [putZ_eq]
  have BP : Whole (((putB w1 w.heap.size (fun _ => 0) g n c (w1.heap.size + 1) (n * 16) (n * 16)).alloc (.cells #[.slice (some ⟨g, 0, none⟩) n c] 39)).alloc (.cells (wcs (List.replicate (n * 16) 0)).toArray 22)).drew w.heap.size 41 (rCs (fun _ => 0) g n c (w1.heap.size + 1) (n * 16) (n * 16)) := drew_whole (((putB_whole B3 rfl (fun _ => 0) g n c (w1.heap.size + 1) (n * 16) (n * 16)).alloc _).alloc _)
  have hF := putB_fr w1 w.heap.size (fun _ => 0) g n c (w1.heap.size + 1) (n * 16) (n * 16)
  have hs : (putB w1 w.heap.size (fun _ => 0) g n c (w1.heap.size + 1) (n * 16) (n * 16)).heap.size = w1.heap.size := by simp [putB, World.setCells]
  have hB := (((putB_below (b := w.heap.size) (below_of hb0 hb) (Nat.le_refl _) (Nat.le_of_lt l2) (fun _ => 0) g n c (w1.heap.size + 1) (n * 16) (n * 16)).alloc (by rw [hs]; omega) (.cells #[.slice (some ⟨g, 0, none⟩) n c] 39)).alloc (by simp [hs]; omega) (.cells (wcs (List.replicate (n * 16) 0)).toArray 22)).drew
  obtain ⟨r1, r2, c2, r3, r4, r5⟩ := HR.out
  simp only [Value.slice.injEq, true_and] at r5
  obtain ⟨_, rfl⟩ := r5
  have hgB : g ≠ w.heap.size := by simp at hg; omega
  have HQ : Hid (Rm ((((putB w1 w.heap.size (fun _ => 0) g n c (w1.heap.size + 1) (n * 16) (n * 16)).alloc (.cells #[.slice (some ⟨g, 0, none⟩) n c] 39)).alloc (.cells (wcs (List.replicate (n * 16) 0)).toArray 22)).drew) g c (w1.heap.size + 1) (n * 16) (newM n)) := Lib.hid (drew_rm
    ⟨((r2.fr hF hgB).alloc _).alloc _, ⟨[], by
      have := Whole.new ((putB w1 w.heap.size (fun _ => 0) g n c (w1.heap.size + 1) (n * 16) (n * 16)).alloc (.cells #[.slice (some ⟨g, 0, none⟩) n c] 39)) 22 (wcs (List.replicate (n * 16) 0)).toArray
      rw [World.size_alloc, hs] at this
      rw [List.append_nil]
      exact this⟩, r3, r4, by simp [newM], by unfold maxLen; omega⟩)
  clear r1 r2 r3 hF B3 e0 e1 e2 e3 e4 e5 e6 e7 e8 e9 f0 f1 f2 f3 f4 f5 f6 f7 f8 f9 hmk hmk2
  have hl : (newM n).ws.length = n * 16 ∧ (newM n).pg.length = n ∧ (newM n).gt = fun _ => 0 := by simp [newM, zeros]
  obtain ⟨hl1, hl2, hl3⟩ := hl
  generalize (((putB w1 w.heap.size (fun _ => 0) g n c (w1.heap.size + 1) (n * 16) (n * 16)).alloc (.cells #[.slice (some ⟨g, 0, none⟩) n c] 39)).alloc (.cells (wcs (List.replicate (n * 16) 0)).toArray 22)).drew = wz at *
  obtain ⟨p0, p1, p2, p3, p4, p5, p6, p7, p8, p9⟩ := box_cells BP
  go_wp2_with fail
  refine bodyPost_ret (v := rV (fun _ => 0) g n c (w1.heap.size + 1) (n * 16) (n * 16)) (by simp [results, Try.results26, go_sem, p0, p1, p2, p3, p4, p5, p6, p7, p8, p9]) rfl ?_
  unfold NewRm
  rw [hl1, hl2, hl3]
  exact ⟨g, c, w1.heap.size + 1, n * 16, rfl, HQ.out, by simp at hg; omega, by omega, hB⟩
end Go.Proofs.Ytihcellcdkhadaa.MF
