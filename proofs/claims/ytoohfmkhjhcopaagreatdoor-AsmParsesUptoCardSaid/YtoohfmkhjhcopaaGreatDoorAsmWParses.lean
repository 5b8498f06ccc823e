/-
  The law AsmParses, walked.
-/
import Derived.Test.YtoohfmkhjhcopaaGreatDoorAsmRefQ
import Derived.Test.YtoohfmkhjhcopaaGreatDoorAsmAwake
set_option linter.unusedSimpArgs false
set_option linter.unusedVariables false
namespace Go.Proofs.YtoohfmkhjhcopaaGreatDoor.WK
open Go.RowKit WM IM WF IF AM AF NR

theorem pA : SaysT 12 #[] (.bool true) := fun w T => awake_any w T
set_option maxHeartbeats 2000000 in
theorem parses_way (S : ByteArray) (o d a b m K : Int) (w : World) (T : Tab w) (C1 : SaysT 13 #[.string S] (.tuple #[insV o d a b m, .int .i64 K]))
    (C2 : Says Tryz.prog 14 #[.string S] (.tuple #[insV o d a b m, .int .i64 K])) :
    Calls Tryz.prog 4 #[.string S] w fun e w' => e = .returned (.bool true) ∧ Below w.heap.size w w' := by
  have HT : Hid (∀ u, Below w.heap.size w u → Tab u) := fun u hb => T.below hb
  have HA := Lib.hid pA
  have H1 := Lib.hid C1
  have H2 := Lib.hid C2
  have hbr := Below.refl w.heap.size w
  clear T C1 C2
  go_enter Tryz.func4, Tryz.ntmps4
  go_wp2_with (first | (go_at_call 13; refine (H1.out _ (HT.out _ hbr)).mono ?_; rintro e w1 ⟨rfl, hb1⟩; have hI := Blk.new w1 24 #[.int .u8 o, .int .u8 d, .int .u8 a, .int .u8 b, .int .i32 m]; have hb2 := ball (o := .cells #[.int .u8 o, .int .u8 d, .int .u8 a, .int .u8 b, .int .i32 m] 24) hb1) | (go_at_call 14; refine (H2.out _).mono ?_; rintro e w2 ⟨rfl, hb3⟩; have hI2 := blk_below hI hb3; have hb4 := btr hb2 hb3; have hI3 := blk_below hI2 (below_new w2 (.cells #[.int .u8 o, .int .u8 d, .int .u8 a, .int .u8 b, .int .i32 m] 24)); obtain ⟨⟨k0, k1, k2, k3, k4⟩, hf, hlt⟩ := blk5 hI3; obtain ⟨⟨l0, l1, l2, l3, l4⟩, lf, llt⟩ := blk5 hI2; have hb5 := ball (o := .cells #[.int .u8 o, .int .u8 d, .int .u8 a, .int .u8 b, .int .i32 m] 24) hb4; obtain ⟨⟨n0, n1, n2, n3, n4⟩, nf, nlt⟩ := blk5 (Blk.new w2 24 #[.int .u8 o, .int .u8 d, .int .u8 a, .int .u8 b, .int .i32 m])) | (go_at_call 12; refine (HA.out _ (HT.out _ hb5)).mono ?_; rintro e w6 ⟨rfl, hb6⟩))
  go_ret
  exact ⟨rfl, btr hb5 hb6⟩
theorem AsmParses_walk (s : ByteArray) (hs : s.size ≤ 1048576) (w : World) (T : Tab w) :
    Calls Tryz.prog 4 #[.string s] w fun e w' => e = .returned (.bool true) ∧ Below w.heap.size w w' := by
  have hl : s.data.toList.length ≤ 1048576 := by rw [size_list]; exact hs
  have C1 := parse_any s.data.toList (by omega)
  have C2 : Says Tryz.prog 14 #[.string (bs s.data.toList)] (parV (pC s.data.toList)) := fun w => refParseX _ hl w
  rw [bs_of] at C1 C2
  cases hp : pC s.data.toList with
  | none =>
    rw [hp] at C1 C2
    exact parses_way s _ _ _ _ _ _ w T C1 C2
  | some i =>
    rw [hp] at C1 C2
    exact parses_way s _ _ _ _ _ _ w T C1 C2
end Go.Proofs.YtoohfmkhjhcopaaGreatDoor.WK
