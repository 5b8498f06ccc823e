/-
  The law AsmPrints, walked.
-/
import Derived.Test.YtoohfmkhjhcopaaGreatDoorAsmRefP
import Derived.Test.YtoohfmkhjhcopaaGreatDoorAsmAwake
import Derived.Deep.RegionHeld3
set_option linter.unusedSimpArgs false
set_option linter.unusedVariables false
namespace Go.Proofs.YtoohfmkhjhcopaaGreatDoor.WK
open Go.RowKit WM IM WF IF AM AF

theorem below_drew_iff {B : Nat} {a w : World} : Below B a w.drew ↔ Below B a w := ⟨fun h => ⟨h.os, h.tape, h.output, h.size, h.block⟩, fun h => h.drew⟩
/-- an instruction's cells stand there, and all that was there -/
def Stood (w : World) (o d a b m : Int) (u : World) : Prop := u.cell? ⟨w.heap.size, 0, none⟩ = some (.int .u8 o) ∧ u.cell? ⟨w.heap.size, 1, none⟩ = some (.int .u8 d) ∧ u.cell? ⟨w.heap.size, 2, none⟩ = some (.int .u8 a) ∧ u.cell? ⟨w.heap.size, 3, none⟩ = some (.int .u8 b) ∧
  u.cell? ⟨w.heap.size, 4, none⟩ = some (.int .i32 m) ∧ w.heap.size < u.heap.size ∧ Below w.heap.size w u
theorem stood_in {f : FuncId} {args : Array Value} {v : Value} (C : SaysT f args v) (w : World) (T : Hid (Tab w)) (o d a b m : Int) (u : World) (h : Stood w o d a b m u) :
    Calls Tryz.prog f args u fun e w' => e = .returned v ∧ Stood w o d a b m w' := by
  obtain ⟨h0, h1, h2, h3, h4, h5, h6⟩ := h
  exact (C u (T.out.below h6)).mono fun e w' ⟨he, hb⟩ => ⟨he, by
    have k : ∀ j : Nat, w'.cell? ⟨w.heap.size, j, none⟩ = u.cell? ⟨w.heap.size, j, none⟩ := fun j => hb.cell (p := ⟨w.heap.size, j, none⟩) h5
    exact ⟨(k 0).trans h0, (k 1).trans h1, (k 2).trans h2, (k 3).trans h3, (k 4).trans h4, Nat.lt_of_lt_of_le h5 hb.size, h6.trans (hb.mono h6.size)⟩⟩
theorem awakeT : SaysT 12 #[] (.bool true) := fun w T => awake_any w T
set_option maxHeartbeats 1000000 in
theorem AsmPrints_walk (o d a b m : Int) (h : Fit o d a b m) (w : World) (T : Tab w) :
    Calls Tryz.prog 3 #[insV o d a b m] w fun e w' => e = .returned (.bool true) ∧ Below w.heap.size w w' := by
  have HT := Lib.hid T
  have C1 := Lib.hid (print_any (o, d, a, b, m) h)
  have C2 := Lib.hid (saysT (refPrint_any (o, d, a, b, m) h))
  have C3 := Lib.hid (mnemonic_any o h.1)
  have C4 := Lib.hid (saysT (refMnem_any o h.1))
  have C5 := Lib.hid awakeT
  generalize bs (prK (o, d, a, b, m)) = X at *
  generalize chkI (o, d, a, b, m) = K at *
  generalize bs (mn o) = Y at *
  dsimp only [insI] at *
  clear h T
  have h0 : Stood w o d a b m (w.alloc (.cells #[.int .u8 o, .int .u8 d, .int .u8 a, .int .u8 b, .int .i32 m] 24)) := by
    obtain ⟨⟨k0, k1, k2, k3, k4⟩, _, hlt⟩ := blk5 (Blk.new w 24 #[.int .u8 o, .int .u8 d, .int .u8 a, .int .u8 b, .int .i32 m])
    exact ⟨k0, k1, k2, k3, k4, hlt, below_new _ _⟩
  have HS := Lib.hid h0
  clear h0
  go_enter Tryz.func3, Tryz.ntmps3
  go_wp2_with (first | (go_at_call 8; refine (stood_in C1.out w HT o d a b m _ HS.out).mono ?_; rintro e w1 ⟨rfl, hs1⟩; have HS1 := Lib.hid hs1; obtain ⟨g0, g1, g2, g3, g4, g5, g6⟩ := hs1) | (go_at_call 9; refine (stood_in C2.out w HT o d a b m _ HS1.out).mono ?_; rintro e w2 ⟨rfl, hs2⟩; clear g0 g1 g2 g3 g4 g5 g6; obtain ⟨g0, g1, g2, g3, g4, g5, g6⟩ := hs2))
  go_region_held3 (fun u => u.cell? ⟨w.heap.size, 0, none⟩ = some (.int .u8 o) ∧ u.cell? ⟨w.heap.size, 1, none⟩ = some (.int .u8 d) ∧ u.cell? ⟨w.heap.size, 2, none⟩ = some (.int .u8 a) ∧ u.cell? ⟨w.heap.size, 3, none⟩ = some (.int .u8 b) ∧ u.cell? ⟨w.heap.size, 4, none⟩ = some (.int .i32 m) ∧ w.heap.size < u.heap.size ∧ Below w.heap.size w u)
    (first | (simp [*, World.cell?_alloc_some, below_drew_iff, below_new]; done) | (simp [*, World.cell?_alloc_some, below_drew_iff, below_new]; omega))
    (first | (go_at_call 10; refine (stood_in C3.out w HT o d a b m _ (by simp [Stood, *])).mono ?_; rintro e w' ⟨rfl, g0, g1, g2, g3, g4, g5, g6⟩) | (go_at_call 11; refine (stood_in C4.out w HT o d a b m _ (by simp [Stood, *])).mono ?_; rintro e w' ⟨rfl, g0, g1, g2, g3, g4, g5, g6⟩) | (go_at_call 12; refine (stood_in C5.out w HT o d a b m _ (by simp [Stood, *])).mono ?_; rintro e w' ⟨rfl, g0, g1, g2, g3, g4, g5, g6⟩))
  go_wp2
  go_ret
  exact ⟨rfl, by assumption⟩
end Go.Proofs.YtoohfmkhjhcopaaGreatDoor.WK
