/-
  The law HartSames, walked. Nothing here is a statement of the seed.
-/
import Derived.Test.YtihcellcdkhadaaHartAwake
import Derived.Test.YtihcellcdkhadaaHartEqR
import Derived.Deep.CutRange
set_option linter.unusedSimpArgs false
set_option linter.unusedVariables false
namespace Go.Proofs.Ytihcellcdkhadaa.HF
open Go.RowKit PM PR PF MM MR MF HM HR
set_option maxHeartbeats 8000000
set_option maxRecDepth 10000
theorem sames_two (w : World) (ca cb : Array Value) : Below w.heap.size w ((w.alloc (.cells ca 28)).alloc (.cells cb 28)) ∧ Whole ((w.alloc (.cells ca 28)).alloc (.cells cb 28)) w.heap.size 28 ca ∧ Whole ((w.alloc (.cells ca 28)).alloc (.cells cb 28)) (w.heap.size + 1) 28 cb := by
  refine ⟨bl2 .., (Whole.new w _ _).alloc _, ?_⟩
  have := Whole.new (w.alloc (.cells ca 28)) 28 cb
  simpa using this
theorem Rs.go {B : Nat} {w u : World} {a : Option Addr} {n c : Nat} {l : List Int} (h : Rs B w a n c l) (hb : Below B w u) (hB : B ≤ u.heap.size) : Rs u.heap.size u a n c l := (h.below hb).mono fun g hg => Nat.lt_of_lt_of_le hg hB
abbrev SmS (b b1 : Nat) (pc : Int) (R : Nat → Int) (a : Option Addr) (n c : Nat) (why ep home : Int) (pc2 : Int) (R2 : Nat → Int) (a2 : Option Addr) (n2 c2 : Nat) (why2 ep2 home2 : Int) (a' : Option Addr) (c' : Nat) (u : World) : Prop :=
  HC b pc (R 0) (R 1) (R 2) (R 3) (R 4) (R 5) (R 6) (R 7) a n c why ep home u ∧ HC (b + 1) pc2 (R2 0) (R2 1) (R2 2) (R2 3) (R2 4) (R2 5) (R2 6) (R2 7) a2 n2 c2 why2 ep2 home2 u ∧ HC b1 pc (R 0) (R 1) (R 2) (R 3) (R 4) (R 5) (R 6) (R 7) a' n c' why ep home u
theorem SmS.go {b b1 : Nat} {pc : Int} {R : Nat → Int} {a : Option Addr} {n c : Nat} {why ep home : Int} {pc2 : Int} {R2 : Nat → Int} {a2 : Option Addr} {n2 c2 : Nat} {why2 ep2 home2 : Int} {a' : Option Addr} {c' : Nat} {u v : World} (h : SmS b b1 pc R a n c why ep home pc2 R2 a2 n2 c2 why2 ep2 home2 a' c' u) (hb : Below u.heap.size u v) : SmS b b1 pc R a n c why ep home pc2 R2 a2 n2 c2 why2 ep2 home2 a' c' v := ⟨hc_go h.1 hb, hc_go h.2.1 hb, hc_go h.2.2 hb⟩
end Go.Proofs.Ytihcellcdkhadaa.HF
namespace Go.Proofs.Ytihcellcdkhadaa.WK
open Go.RowKit PM PR PF MM MR MF HM HR HF
set_option maxHeartbeats 16000000
set_option maxRecDepth 10000
theorem HartSames_walk {w : World} {h : Ht} {a : Option Addr} {n c : Nat} {k : Ht} {a2 : Option Addr} {n2 c2 : Nat} (h1 : Rs w.heap.size w a n c h.sk) (h2 : Rs w.heap.size w a2 n2 c2 k.sk) (hn : h.sk.length * 4 ≤ 140737488355328) (home : Int) :
    Calls Try.prog 3 #[hV h.pc h.r a n c h.why h.ep h.home, hV k.pc k.r a2 n2 c2 k.why k.ep k.home, .int .u32 home] w fun e w' => e = .returned (.bool true) ∧ Below w.heap.size w w' := by
  have hl1 := h1.len
  obtain ⟨pc, R, l, why, ep, home1⟩ := h
  obtain ⟨pc2, R2, l2, why2, ep2, home2⟩ := k
  simp only at *
  obtain ⟨T0, T1, T2⟩ := sames_two w (hCs pc R a n c why ep home1) (hCs pc2 R2 a2 n2 c2 why2 ep2 home2)
  have C0 := Lib.hid (copy_any (h1.go T0 T0.size) (by omega) pc R why ep home1)
  have TT := Lib.hid (And.intro T0 (And.intro T1 (And.intro T2 (And.intro h1 h2))))
  have HN := Lib.hid (show n * 4 ≤ 140737488355328 by omega)
  have AW := Lib.hid awake_any
  clear h1 h2 hn hl1 T0 T1 T2
  go_enter Try.func3, Try.ntmps3
  go_upto_region 2 with (go_at_call 8; (with_reducible refine C0.out.mono ?_); rintro e w1 ⟨a', c', rfl, sk, hb⟩; have HS := Lib.hid sk; have HB := Lib.hid hb; clear sk hb)
  obtain ⟨T0, T1, T2, h1, h2⟩ := TT.out
  have hW : Below w.heap.size w (w1.alloc (.cells (hCs pc R a' n c' why ep home1) 28)) := (T0.trans (HB.out.mono T0.size)).alloc (by have := T0.size; have := HB.out.size; omega) _
  have V1 : HC w.heap.size pc (R 0) (R 1) (R 2) (R 3) (R 4) (R 5) (R 6) (R 7) a n c why ep home1 (w1.alloc (.cells (hCs pc R a' n c' why ep home1) 28)).drew := hart_cells ((T1.belowS HB.out).alloc _)
  have V2 : HC (w.heap.size + 1) pc2 (R2 0) (R2 1) (R2 2) (R2 3) (R2 4) (R2 5) (R2 6) (R2 7) a2 n2 c2 why2 ep2 home2 (w1.alloc (.cells (hCs pc R a' n c' why ep home1) 28)).drew := hart_cells ((T2.belowS HB.out).alloc _)
  have V3 : HC w1.heap.size pc (R 0) (R 1) (R 2) (R 3) (R 4) (R 5) (R 6) (R 7) a' n c' why ep home1 (w1.alloc (.cells (hCs pc R a' n c' why ep home1) 28)).drew := hart_cells (Whole.new w1 28 (hCs pc R a' n c' why ep home1))
  have HS2 := Lib.hid (HS.out.belowS (below_new w1 (.cells (hCs pc R a' n c' why ep home1) 28)))
  have X : SmS w.heap.size w1.heap.size pc R a n c why ep home1 pc2 R2 a2 n2 c2 why2 ep2 home2 a' c' (w1.alloc (.cells (hCs pc R a' n c' why ep home1) 28)).drew := ⟨V1, V2, V3⟩
  have BX := Lib.hid (And.intro ((T1.belowS HB.out).alloc (.cells (hCs pc R a' n c' why ep home1) 28)) (Whole.new w1 28 (hCs pc R a' n c' why ep home1)))
  have HLT : Hid (w.heap.size + 1 < w1.heap.size) := Lib.hid (by have := T2.lt; have := HB.out.size; omega)
  clear T0 T1 T2 V1 V2 V3 HB HS TT C0
  generalize hW1 : (w1.alloc _) = W at *
  have CS1 := Lib.hid (fun (u : World) (hb : Below W.heap.size W u) => sameH_any pc R why ep home1 pc2 R2 why2 ep2 home2 (h1.go (hW.trans (hb.mono hW.size)) (Nat.le_trans hW.size hb.size)) (h2.go (hW.trans (hb.mono hW.size)) (Nat.le_trans hW.size hb.size)))
  have CS2 := Lib.hid (fun (u : World) (hb : Below W.heap.size W u) => refSame_any pc R why ep home1 pc2 R2 why2 ep2 home2 (h1.go (hW.trans (hb.mono hW.size)) (Nat.le_trans hW.size hb.size)) (h2.go (hW.trans (hb.mono hW.size)) (Nat.le_trans hW.size hb.size)))
  generalize decide (One pc R l why ep home1 pc2 R2 l2 why2 ep2 home2) = bb at *
  have CS3 := Lib.hid (fun (u : World) (hb : Below W.heap.size W u) => sameH_any pc R why ep home1 pc R why ep home1 (HS2.out.belowS hb).reads (h1.go (hW.trans (hb.mono hW.size)) (Nat.le_trans hW.size hb.size)))
  rw [show decide (One pc R l why ep home1 pc R l why ep home1) = true from decide_eq_true ⟨rfl, rfl, rfl, rfl, rfl, rfl⟩] at CS3
  have CN1 := Lib.hid (HF.new_any home)
  have CN2 := Lib.hid (refNewH_any home)
  have CS4 := Lib.hid (fun (u : World) => refSame_any (w := u) (l := []) (l2 := []) home (fun _ => 0) 0 0 home home (fun _ => 0) 0 0 home (Reads.nil _ u) (Reads.nil _ u))
  rw [show decide (One home (fun _ => 0) [] 0 0 home home (fun _ => 0) [] 0 0 home) = true from decide_eq_true ⟨rfl, rfl, rfl, rfl, rfl, rfl⟩] at CS4
  have hbb : (bb == bb) = true := by cases bb <;> rfl
  have HW := Lib.hid (And.intro hW (And.intro h1 h2))
  have HB : Below W.heap.size W W.drew := (Below.refl _ _).drew
  clear hW h1 h2 hW1
  go_region_held3 (fun u => SmS w.heap.size w1.heap.size pc R a n c why ep home1 pc2 R2 a2 n2 c2 why2 ep2 home2 a' c' u)
    (first | with_reducible exact X | with_reducible assumption)
    (first | (go_at_call 11; (with_reducible refine (CN1.out.at _).mono ?_); rintro e w3 ⟨rfl, hb⟩; have X := SmS.go X hb; have HB := below_of HB hb) | (go_at_call 12; (with_reducible refine (CN2.out.at _).mono ?_); rintro e w3 ⟨rfl, hb⟩; have X := SmS.go X hb; have HB := below_of HB hb) | (go_at_call 9; (first | (with_reducible refine (CS1.out _ HB).mono ?_) | (with_reducible refine (CS3.out _ HB).mono ?_)); rintro e w3 ⟨rfl, hb⟩; have X := SmS.go X hb; have HB := below_of HB hb) | (go_at_call 10; (first | (with_reducible refine (CS2.out _ HB).mono ?_) | (with_reducible refine (CS4.out _).mono ?_)); rintro e w3 ⟨rfl, hb⟩; have X := SmS.go X hb; have HB := below_of HB hb))
  rename_i hHeld
  clear hHeld
  have X3 := Lib.hid X
  have B3 := Lib.hid HB
  clear CS1 CS2 CS3 CS4 CN1 CN2 hbb HB hb
  have CP := Lib.hid (refCopy_any (HW.out.2.1.go (HW.out.1.trans (B3.out.mono HW.out.1.size)) (Nat.le_trans HW.out.1.size B3.out.size)) HN.out pc R why ep home1)
  obtain ⟨⟨c0, c1, c2', c3, c4, c5, c6, c7, c8, c9, c10, c11, c12⟩, _, _⟩ := X
  go_upto_region 4 with (go_at_call 13; (with_reducible refine CP.out.mono ?_); rintro e w4 ⟨a4, d4, rfl, sk, hb⟩; have HS := Lib.hid sk; have HB4 := Lib.hid hb; clear sk hb)
  have hn4 := below_new w4 (.cells (hCs pc R a4 n d4 why ep home1) 28)
  have hb4 := below_of B3.out HB4.out
  have BA := (BX.out.1.belowS hb4).belowS hn4
  have BC := (BX.out.2.belowS hb4).belowS hn4
  have BS := Whole.new w4 28 (hCs pc R a4 n d4 why ep home1)
  have KC := (HS2.out.belowS hb4).belowS hn4
  have KS := HS.out.belowS hn4
  have hBW := (HW.out.1.trans (hb4.mono HW.out.1.size)).trans (hn4.mono (Nat.le_trans HW.out.1.size hb4.size))
  have kc := World.ownsRow.lt (HS2.out.belowS B3.out)
  have ks := World.ownsRow.lt KS
  have EX : Hid (∀ wr, Fr (fun j => (Value.slice a' n c').ownBlock = some j) (w4.alloc (.cells (hCs pc R a4 n d4 why ep home1) 28)) wr → Whole wr w.heap.size 28 (hCs pc R a n c why ep home1) ∧ Whole wr w1.heap.size 28 (hCs pc R a' n c' why ep home1) ∧ Whole wr w4.heap.size 28 (hCs pc R a4 n d4 why ep home1) ∧ Below w.heap.size w wr ∧ Rs wr.heap.size wr a n c l ∧ Rs wr.heap.size wr a4 n d4 l) := Lib.hid fun wr hf => by
    have hbr : Below w.heap.size w wr := PR.Below.fr hBW hf hBW.size (fun i hi => by have := kc i hi; simp at this; omega)
    exact ⟨BA.fr hf (KC.ne_ BA (by decide)), BC.fr hf (KC.ne_ BC (by decide)), BS.fr hf (KC.ne_ BS (by decide)), hbr, HW.out.2.1.go hbr hbr.size, (KS.fr hf (fun k hk hk' => by have := kc k hk'; have := ks k hk; omega)).reads⟩
  have KCx := Lib.hid KC
  have CS5 := Lib.hid (fun (u : World) (x1 : Rs u.heap.size u a n c l) (x2 : Rs u.heap.size u a4 n d4 l) => refSame_any pc R why ep home1 pc R why ep home1 x1 x2)
  rw [show decide (One pc R l why ep home1 pc R l why ep home1) = true from decide_eq_true ⟨rfl, rfl, rfl, rfl, rfl, rfl⟩] at CS5
  have HM : Hid (n ≤ maxLen) := Lib.hid KC.nmax
  have hm : (n : Int) ≤ 9223372036854775807 := by have := HM.out; unfold maxLen at this; omega
  clear hn4 hb4 BA BC BS KC KS hBW kc ks HS HS2 HB4 B3 X3 BX HW HN c0 c1 c2' c3 c4 c5 c6 c7 c8 c9 c10 c11 c12
  generalize (w4.alloc _) = W4 at *
  generalize ((w.alloc _).alloc _).heap.size = B0 at *
  go_wp2_with fail
  go_loopw [10] (fun i wr => ∃ (k : Nat) (lk : List Int), k ≤ n ∧ i = .int .i64 (k : Int) ∧ Hid (Sk wr B0 a' n c' lk) ∧ Hid (Fr (fun j => (Value.slice a' n c').ownBlock = some j) W4 wr)) (fun i _ => n - (intOf i).toNat)
  case atStart => exact ⟨0, l, by omega, rfl, KCx, Lib.hid (Fr.refl _ _)⟩
  case round =>
    obtain ⟨k, lk, hk, rfl, hs, hf⟩ := hrel
    obtain ⟨x1, x2, x3, x4, x5, x6⟩ := EX.out _ hf.out
    by_cases hlt : k < n
    · have hlt' : (k : Int) < n := by omega
      have m9 := x2.cell 9
      simp at m9
      have hs0 := hs.out
      rcases id hs0.2 with ⟨_, h0⟩ | ⟨g, cap, cur, e, _⟩
      · omega
      · simp only [Value.slice.injEq, true_and] at e
        obtain ⟨rfl, rfl⟩ := e
        have hll := hs0.len
        have y1 := World.ownsRow.cellAt hs0 k (by omega)
        rw [wcs_at (by omega)] at y1
        have y2 := World.ownsRow.frozenAt hs0 k
        have SR := Lib.hid (fun x => World.ownsRow.stored hs0 k (.int .u32 x))
        generalize lk.getD k 0 = x at *
        have x2c := x2.lt
        clear x1 x3 x4 x5 x6 hs hs0 hll
        go_wp2_with fail
        go_roundw
        case rel => exact ⟨k + 1, lk.set k ((x + 1) % 4294967296), by omega, by go_num, Lib.hid (by have h3 := (SR.out ((x + 1) % 4294967296)).1; rw [wcs_set] at h3; exact h3), Lib.hid (hf.out.set (p := ⟨g, k, none⟩) (Or.inl rfl) _)⟩
        case measure => simp [intOf]; omega
    · obtain rfl : k = n := by omega
      obtain ⟨c0, c1, c2', c3, c4, c5, c6, c7, c8, c9, c10, c11, c12⟩ := hart_cells x1
      obtain ⟨d0, d1, d2, d3, d4', d5, d6, d7, d8, d9, d10, d11, d12⟩ := hart_cells x3
      have m9 := x2.cell 9
      simp at m9
      have x4h := Lib.hid (And.intro x4 (And.intro x5 x6))
      clear x1 x2 x3 x4 x5 x6 hs hf
      go_wp2_with (first | (go_at_call 10; (with_reducible refine (CS5.out _ x4h.out.2.1 x4h.out.2.2).mono ?_); rintro e w5 ⟨rfl, hb⟩; have H5 := Lib.hid (x4h.out.1.trans (hb.mono x4h.out.1.size)); clear hb) | (go_at_call 14; (with_reducible refine (AW.out _).mono ?_); rintro e w6 ⟨rfl, hb⟩; have H6 := Lib.hid (H5.out.trans (hb.mono H5.out.size)); clear hb))
      go_ret
      exact ⟨rfl, H6.out⟩
end Go.Proofs.Ytihcellcdkhadaa.WK
