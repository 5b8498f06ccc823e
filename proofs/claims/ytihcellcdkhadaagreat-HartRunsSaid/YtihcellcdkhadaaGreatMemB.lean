/-
  Joined texts: MemRef, MemRef2. Nothing here is a statement of the seed.
-/
import Derived.Test.YtihcellcdkhadaaGreatMemA
import Derived.Deep.CutRange
set_option linter.unusedSimpArgs false
set_option linter.unusedVariables false
/-
  The reference's memory: words, gates, what harts are told; a word, a gate turned. Nothing here is a statement of the seed.
-/
namespace Go.Proofs.YtihcellcdkhadaaGreat.MF
open Go.RowKit PM PR PF MM MR

section
variable {w : World} {gr c gw d : Nat} {M : Mm}
theorem refPeek_any (h : Rm w gr c gw d M) (ok : MOk M) (a : Int) (ha : 0 ≤ a ∧ a ≤ 4294967295) : Calls Tryz.prog 46 #[rV M.gt gr M.pg.length c gw M.ws.length d, .int .u32 a] w fun e w' => e = .returned (.int .u32 (peek M a)) ∧ Below w.heap.size w w' := by
  have h16 := ok.w16
  have h256 := ok.p256
  have hm : M.ws.length ≤ 4096 := by omega
  have hgw := h.lt.2
  have hb0 := below_new w (.cells (rCs M.gt gr M.pg.length c gw M.ws.length d) 36)
  unfold peek
  obtain ⟨ha0, ha1⟩ := ha
  by_cases h1 : a < 64
  · rw [if_pos h1]
    have C := Lib.hid (refEnc_says a ⟨ha0, h1⟩)
    clear h ok h16
    generalize slotW a = x at *
    generalize M.pg.length = n at *
    generalize M.ws.length = m at *
    go_enter Tryz.func46, Tryz.ntmps46
    go_wp2_with (go_at_call 89; (with_reducible refine (C.out.at _).mono ?_); rintro e w1 ⟨rfl, hb⟩)
    go_ret
    exact ⟨rfl, below_of hb0 hb⟩
  · rw [if_neg h1]
    by_cases h2 : a < 72
    · rw [if_pos h2]
      clear h ok h16
      generalize M.pg.length = n at *
      generalize M.ws.length = m at *
      generalize M.gt = G at *
      rcases (show a = 64 ∨ a = 65 ∨ a = 66 ∨ a = 67 ∨ a = 68 ∨ a = 69 ∨ a = 70 ∨ a = 71 by omega) with rfl | rfl | rfl | rfl | rfl | rfl | rfl | rfl <;> clear h1 h2 ha0 ha1
      all_goals
        go_enter Tryz.func46, Tryz.ntmps46
        go_wp2_with fail
        go_ret
        exact ⟨rfl, hb0⟩
    · rw [if_neg h2]
      have C := Lib.hid (refThere_any M.gt gr M.pg.length c gw M.ws.length d hm a ⟨ha0, ha1⟩)
      rw [show decide (80 ≤ a ∧ a < 80 + (M.ws.length : Int)) = thereB M a from rfl] at C
      cases ht : thereB M a
      · rw [if_neg (by decide)]
        rw [ht] at C
        clear h ok h16 ht
        generalize M.pg.length = n at *
        generalize M.ws.length = m at *
        generalize M.gt = G at *
        go_enter Tryz.func46, Tryz.ntmps46
        go_wp2_with (go_at_call 58; (with_reducible refine (C.out.at _).mono ?_); rintro e w1 ⟨rfl, hb⟩; obtain ⟨hc, hf⟩ := bcell hb)
        go_ret
        exact ⟨rfl, below_of hb0 hb⟩
      · rw [if_pos rfl]
        rw [ht] at C
        obtain ⟨t1, t2⟩ := there_at ht
        have cw := h.wr.cell t2
        change w.cell? ⟨gw, (a - 80).toNat, none⟩ = some (.int .u32 (word M a)) at cw
        clear h ok h16 ht h1 h2
        obtain ⟨k, rfl⟩ : ∃ k : Nat, a = 80 + k := ⟨(a - 80).toNat, by omega⟩
        rw [show (80 + (k : Int) - 80).toNat = k by omega] at *
        generalize word M (80 + (k : Int)) = y at *
        generalize M.pg.length = n at *
        generalize M.ws.length = m at *
        generalize M.gt = G at *
        have hk0 : (0 : Int) ≤ k := by omega
        have hk1 : (k : Int) < m := by omega
        have hm1 : (m : Int) ≤ 4096 := by omega
        clear t1 ha0 ha1 t2
        go_enter Tryz.func46, Tryz.ntmps46
        go_wp2_with (go_at_call 58; (with_reducible refine (C.out.at _).mono ?_); rintro e w1 ⟨rfl, hb⟩; obtain ⟨hc, hf⟩ := bcell hb; have cw1 := ((below_of hb0 hb).cell (p := ⟨gw, k, none⟩) hgw).trans cw)
        go_ret
        exact ⟨rfl, below_of hb0 hb⟩
end
end Go.Proofs.YtihcellcdkhadaaGreat.MF

/-
  What harts are told of the reference's memory. Nothing here is a statement of the seed.
-/
namespace Go.Proofs.YtihcellcdkhadaaGreat.MF
open Go.RowKit PM PR PF MM MR

/-- a box with the reference's memory in the block b, a page in the block B3 -/
def Bx (w w3 : World) (b B3 : Nat) (cs ps : Array Value) : Prop := Whole w3 b 36 cs ∧ Whole w3 B3 107 ps ∧ w.heap.size ≤ B3 ∧ Below w.heap.size w w3
theorem bx_new {w W w2 : World} {b : Nat} {cs : Array Value} (h : Whole W b 36 cs) (hb0 : Below w.heap.size w W) (hb : Below W.heap.size W w2) (st : Int) (ex wr : Bool) (ow ep : Int) :
    Bx w (w2.alloc (.cells #[.int .u8 st, .bool ex, .bool wr, .int .u16 ow, .int .u64 ep] 107)) b w2.heap.size cs #[.int .u8 st, .bool ex, .bool wr, .int .u16 ow, .int .u64 ep] :=
  ⟨(h.belowS hb).alloc _, Whole.new _ _ _, Nat.le_trans hb0.size hb.size, below_of (below_of hb0 hb) (below_new _ _)⟩
theorem bx_set {w W w2 : World} {b B3 : Nat} {cs : Array Value} (hB : W.heap.size = B3) (h : Whole W b 36 cs) (hb0 : Below w.heap.size w W)
    (hb : Below (W.alloc (.cells #[.int .u8 0, .bool false, .bool false, .int .u16 0, .int .u64 0] 107)).heap.size (W.alloc (.cells #[.int .u8 0, .bool false, .bool false, .int .u16 0, .int .u64 0] 107)) w2) (st : Int) (ex wr : Bool) (ow ep : Int) :
    Bx w (((((w2.setCell ⟨B3, 0, none⟩ (.int .u8 st)).setCell ⟨B3, 1, none⟩ (.bool ex)).setCell ⟨B3, 2, none⟩ (.bool wr)).setCell ⟨B3, 3, none⟩ (.int .u16 ow)).setCell ⟨B3, 4, none⟩ (.int .u64 ep)) b B3 cs #[.int .u8 st, .bool ex, .bool wr, .int .u16 ow, .int .u64 ep] := by
  subst hB
  have hne : b ≠ W.heap.size := by have := h.lt; omega
  have P := (Whole.new W 107 #[.int .u8 0, .bool false, .bool false, .int .u16 0, .int .u64 0]).belowS hb
  refine ⟨(((((((h.alloc _).belowS hb).far hne _).far hne _).far hne _).far hne _).far hne _), ?_, hb0.size, (((((below_of hb0 (below_of (below_new _ _) hb)).setCell hb0.size _).setCell hb0.size _).setCell hb0.size _).setCell hb0.size _).setCell hb0.size _⟩
  exact ((((P.set_ 0 _).set_ 1 _).set_ 2 _).set_ 3 _).set_ 4 _
theorem page_cells {w : World} {b : Nat} {st ow ep : Int} {ex wr : Bool} (h : Whole w b 107 #[.int .u8 st, .bool ex, .bool wr, .int .u16 ow, .int .u64 ep]) : w.cell? ⟨b, 0, none⟩ = some (.int .u8 st) ∧ w.cell? ⟨b, 1, none⟩ = some (.bool ex) ∧ w.cell? ⟨b, 2, none⟩ = some (.bool wr) ∧ w.cell? ⟨b, 3, none⟩ = some (.int .u16 ow) ∧ w.cell? ⟨b, 4, none⟩ = some (.int .u64 ep) :=
  ⟨h.cell 0, h.cell 1, h.cell 2, h.cell 3, h.cell 4⟩
/-- the box's cells, and the page's owner -/
abbrev RP (b B3 : Nat) (G : Nat → Int) (gr n c gw m d : Nat) (ow : Int) (w : World) : Prop :=
  w.cell? ⟨b, 0, none⟩ = some (.int .u32 (G 0)) ∧ w.cell? ⟨b, 1, none⟩ = some (.int .u32 (G 1)) ∧ w.cell? ⟨b, 2, none⟩ = some (.int .u32 (G 2)) ∧ w.cell? ⟨b, 3, none⟩ = some (.int .u32 (G 3)) ∧ w.cell? ⟨b, 4, none⟩ = some (.int .u32 (G 4)) ∧ w.cell? ⟨b, 5, none⟩ = some (.int .u32 (G 5)) ∧
    w.cell? ⟨b, 6, none⟩ = some (.int .u32 (G 6)) ∧ w.cell? ⟨b, 7, none⟩ = some (.int .u32 (G 7)) ∧ w.cell? ⟨b, 8, none⟩ = some (.slice (some ⟨gr, 0, none⟩) n c) ∧ w.cell? ⟨b, 9, none⟩ = some (.slice (some ⟨gw, 0, none⟩) m d) ∧ w.cell? ⟨B3, 3, none⟩ = some (.int .u16 ow)
theorem rp_of {w : World} {b B3 : Nat} {G : Nat → Int} {gr n c gw m d : Nat} {st ow ep : Int} {ex wr : Bool} (h : Whole w b 36 (rCs G gr n c gw m d)) (k : Whole w B3 107 #[.int .u8 st, .bool ex, .bool wr, .int .u16 ow, .int .u64 ep]) : RP b B3 G gr n c gw m d ow w := by
  obtain ⟨c0, c1, c2, c3, c4, c5, c6, c7, c8, c9⟩ := box_cells h
  exact ⟨c0, c1, c2, c3, c4, c5, c6, c7, c8, c9, k.cell 3⟩
theorem rp_go {w u : World} {b B3 : Nat} {G : Nat → Int} {gr n c gw m d : Nat} {ow : Int} (h : RP b B3 G gr n c gw m d ow w) (h1 : b < w.heap.size) (h2 : B3 < w.heap.size) (hb : Below w.heap.size w u) : RP b B3 G gr n c gw m d ow u := by
  have c := fun i => hb.cell (p := ⟨b, i, none⟩) h1
  obtain ⟨c0, c1, c2, c3, c4, c5, c6, c7, c8, c9, p⟩ := h
  exact ⟨(c _).trans c0, (c _).trans c1, (c _).trans c2, (c _).trans c3, (c _).trans c4, (c _).trans c5, (c _).trans c6, (c _).trans c7, (c _).trans c8, (c _).trans c9, (hb.cell (p := ⟨B3, 3, none⟩) h2).trans p⟩
section
variable {w : World} {gr c gw d : Nat} {M : Mm}
set_option maxHeartbeats 2000000 in
theorem refFetch_any (h : Rm w gr c gw d M) (ok : MOk M) (a ep : Int) (ha : 0 ≤ a ∧ a ≤ 4294967295) : Calls Tryz.prog 32 #[rV M.gt gr M.pg.length c gw M.ws.length d, .int .u32 a, .int .u64 ep] w fun e w' =>
    e = .returned (.tuple #[.int .u32 (fetchW M a ep), .int .u16 (fetchO M a ep), .bool (fetchB M a ep)]) ∧ Below w.heap.size w w' := by
  have h16 := ok.w16
  have h256 := ok.p256
  have hm : M.ws.length ≤ 4096 := by omega
  have hb0 := below_new w (.cells (rCs M.gt gr M.pg.length c gw M.ws.length d) 36)
  have BW := Whole.new w 36 (rCs M.gt gr M.pg.length c gw M.ws.length d)
  have CP := Lib.hid (fun u (hb : Below w.heap.size w u) => refPeek_any (h.belowS hb) ok a ha)
  by_cases h1 : a < 64
  · rw [show fetchB M a ep = true by simp [fetchB, h1], show fetchO M a ep = 0 by simp [fetchO, h1], show fetchW M a ep = peek M a by simp [fetchW, fetchB, h1]]
    clear h ok h16
    generalize peek M a = x at *
    generalize M.pg.length = n at *
    generalize M.ws.length = m at *
    generalize M.gt = G at *
    go_enter Tryz.func32, Tryz.ntmps32
    go_wp2_with (go_at_call 46; (with_reducible refine (CP.out _ hb0).mono ?_); rintro e w1 ⟨rfl, hb⟩)
    exact bodyPost_ret (v := .tuple #[.int .u32 x, .int .u16 0, .bool true]) (by simp [results, Tryz.results32, go_sem]) rfl ⟨rfl, below_of hb0 hb⟩
  · have hB : fetchB M a ep = (thereB M a && runsB (pageAt M a) ep) := by simp [fetchB, h1]
    unfold fetchW fetchO
    rw [if_neg h1, hB]
    have CO := Lib.hid (fun w => refPageOf_any a ha w)
    have CG := Lib.hid (fun u (hb : Below w.heap.size w u) => refGet_any (c := c) (h.belowS hb).row h256 (pageOf a))
    rw [show gP M.pg (pageOf a) = pageAt M a from rfl] at CG
    have CR := Lib.hid (refRuns_any (pageAt M a) ep)
    have CT := Lib.hid (refThere_any M.gt gr M.pg.length c gw M.ws.length d hm a ha)
    rw [show decide (80 ≤ a ∧ a < 80 + (M.ws.length : Int)) = thereB M a from rfl] at CT
    clear h ok h16 hB h256 hm
    generalize peek M a = x at *
    generalize pageOf a = i at *
    generalize runsB (pageAt M a) ep = b at *
    generalize thereB M a = bt at *
    generalize pageAt M a = q at *
    generalize M.pg.length = n at *
    generalize M.ws.length = m at *
    generalize M.gt = G at *
    obtain ⟨st, ex, wr, ow, epp⟩ := q
    change Hid (∀ u, Below w.heap.size w u → Calls _ _ _ u fun e w' => e = .returned (pgV st ex wr ow epp) ∧ _) at CG
    change Hid (Says _ _ #[pgV st ex wr ow epp, _] _) at CR
    go_enter Tryz.func32, Tryz.ntmps32
    go_wp2_with fail
    generalize hWW : w.alloc (.cells (rCs G gr n c gw m d) 36) = W at *
    have hWs : W.heap.size = w.heap.size + 1 := by subst hWW; simp
    have b8 := BW.cell 8
    simp only [List.getElem?_toArray, List.getElem?_cons_zero, List.getElem?_cons_succ] at b8
    have hbd := hb0.drew
    have HW := Lib.hid BW
    have hbda := (hb0.alloc (by rw [hWs]; omega) (.cells #[.int .u8 0, .bool false, .bool false, .int .u16 0, .int .u64 0] 107)).drew
    go_cut [9] from 10 to 34 (fun c9 wx => ∃ B3, c9 = .pointer (some ⟨B3, 0, none⟩) ∧ Hid (Bx w wx w.heap.size B3 (rCs G gr n c gw m d) #[.int .u8 st, .bool ex, .bool wr, .int .u16 ow, .int .u64 epp]))
    case first =>
      go_region_with (first | (go_at_call 60; (with_reducible refine (CO.out _).mono ?_); rintro e w1 ⟨rfl, rfl⟩) | (go_at_call 59; (first | ((with_reducible refine (CG.out _ hbd).mono ?_); rintro e w2 ⟨rfl, hb2⟩; have hb9 := below_drew_next hb2; clear hb2) | ((with_reducible refine (CG.out _ hbda).mono ?_); rintro e w2 ⟨rfl, hb2⟩; have hb8 := below_drew_next hb2; have PW := (Whole.new W 107 #[.int .u8 0, .bool false, .bool false, .int .u16 0, .int .u64 0]).belowS hb8; have e0 := PW.cell 0; have e1 := PW.cell 1; have e2 := PW.cell 2; have e3 := PW.cell 3; have e4 := PW.cell 4; have f0 := PW.frozen 0; have f1 := PW.frozen 1; have f2 := PW.frozen 2; have f3 := PW.frozen 3; have f4 := PW.frozen 4; simp only [List.getElem?_toArray, List.getElem?_cons_zero, List.getElem?_cons_succ, hWs] at e0 e1 e2 e3 e4 f0 f1 f2 f3 f4; clear hb2))))
      all_goals
        have F3 := (by first | exact bx_new (w := w) (W := W) HW.out hb0 hb9 st ex wr ow epp | exact bx_set (w := w) (W := W) hWs HW.out hb0 hb8 st ex wr ow epp)
        first | (generalize w2.alloc (.cells #[.int .u8 st, .bool ex, .bool wr, .int .u16 ow, .int .u64 epp] 107) = w3 at *; generalize w2.heap.size = B3 at *) | (generalize ((((w2.setCell ⟨w.heap.size + 1, 0, none⟩ (.int .u8 st)).setCell ⟨w.heap.size + 1, 1, none⟩ (.bool ex)).setCell ⟨w.heap.size + 1, 2, none⟩ (.bool wr)).setCell ⟨w.heap.size + 1, 3, none⟩ (.int .u16 ow)).setCell ⟨w.heap.size + 1, 4, none⟩ (.int .u64 epp) = w3 at *; clear e0 e1 e2 e3 e4 f0 f1 f2 f3 f4 PW hb8; generalize w.heap.size + 1 = B3 at *)
        go_wp2_with fail
        go_meet
        exact ⟨_, rfl, Lib.hid F3⟩
    case rest =>
    obtain ⟨B3, rfl, HF3⟩ := hcut
    generalize wc = w3 at *
    obtain ⟨q1, q2, q3, q4⟩ := HF3.out
    obtain ⟨c0, c1, c2, c3, c4, c5, c6, c7, c8, c9⟩ := box_cells q1
    have Q1 := Lib.hid q1
    have Q2 := Lib.hid q2
    have Q4 := Lib.hid q4
    clear q1 q2 HF3 HW BW b8 hbd hbda hb0 hWW hWs CG CO
    cases bt
    · go_wp2_with (go_at_call 58; (with_reducible refine (CT.out.at _).mono ?_); rintro e w4 ⟨rfl, hb4⟩)
      exact bodyPost_ret (v := .tuple #[.int .u32 0, .int .u16 0, .bool false]) (by simp [results, Tryz.results32, go_sem]) rfl ⟨rfl, below_of Q4.out hb4⟩
    · cases b
      · go_wp2_with (first | (go_at_call 58; (with_reducible refine (CT.out.at _).mono ?_); rintro e w4 ⟨rfl, hb4⟩; obtain ⟨p0, p1, p2, p3, p4⟩ := page_cells (Q2.out.belowS hb4)) | (go_at_call 85; (with_reducible refine (CR.out.at _).mono ?_); rintro e w5 ⟨rfl, hb5⟩))
        exact bodyPost_ret (v := .tuple #[.int .u32 0, .int .u16 0, .bool false]) (by simp [results, Tryz.results32, go_sem]) rfl ⟨rfl, below_of (below_of Q4.out hb4) hb5⟩
      · go_wp2_with (first | (go_at_call 58; (with_reducible refine (CT.out.at _).mono ?_); rintro e w4 ⟨rfl, hb4⟩; obtain ⟨p0, p1, p2, p3, p4⟩ := page_cells (Q2.out.belowS hb4)) | (go_at_call 85; (with_reducible refine (CR.out.at _).mono ?_); rintro e w5 ⟨rfl, hb5⟩))
        have K5 := rp_of ((Q1.out.belowS hb4).belowS hb5) ((Q2.out.belowS hb4).belowS hb5)
        have hB5 := below_of (below_of Q4.out hb4) hb5
        have hL5 : w.heap.size < w5.heap.size ∧ B3 < w5.heap.size := ⟨((Q1.out.belowS hb4).belowS hb5).lt, ((Q2.out.belowS hb4).belowS hb5).lt⟩
        clear c0 c1 c2 c3 c4 c5 c6 c7 c8 c9 p0 p1 p2 p3 p4 Q1 Q2 Q4
        have K6 : RP w.heap.size B3 G gr n c gw m d ow w5.drew := K5
        have hB6 := hB5.drew
        go_region_held3 (fun u => RP w.heap.size B3 G gr n c gw m d ow u)
          (first | with_reducible exact K6 | with_reducible exact K7)
          (first | (go_at_call 46; (with_reducible refine (CP.out _ hB6).mono ?_); rintro e w6 ⟨rfl, hb6⟩; have K7 := rp_go K5 hL5.1 hL5.2 (below_drew_next hb6); have hB7 := hB6.trans (hb6.mono hB6.size)))
        go_wp2_with fail
        exact bodyPost_ret (v := .tuple #[.int .u32 x, .int .u16 ow, .bool true]) (by simp [results, Tryz.results32, go_sem]) rfl ⟨rfl, hB7⟩
end
end Go.Proofs.YtihcellcdkhadaaGreat.MF
