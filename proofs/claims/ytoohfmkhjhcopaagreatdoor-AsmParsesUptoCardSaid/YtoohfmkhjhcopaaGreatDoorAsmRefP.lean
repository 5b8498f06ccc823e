/-
  What the reference's Print tells. Nothing here is a statement of the seed.
-/
import Derived.Test.YtoohfmkhjhcopaaGreatDoorAsmRef
import Derived.LoopN
set_option linter.unusedSimpArgs false
set_option linter.unusedVariables false
namespace Go.Proofs.YtoohfmkhjhcopaaGreatDoor.AF
open Go.RowKit WM IM WF IF AM NR

def catR (u : Bool) (S D : ByteArray) : ByteArray := match u with
  | true => (S ++ (⟨#[32, 114]⟩ : ByteArray)) ++ D
  | false => S
def catM (u : Bool) (S D : ByteArray) : ByteArray := match u with
  | true => (S ++ (⟨#[32]⟩ : ByteArray)) ++ D
  | false => S
theorem catR_bs (u : Bool) (l x : List UInt8) : catR u (bs l) (bs x) = bs (l ++ seg u (114 :: x)) := by
  cases u with
  | false => show bs l = bs (l ++ []); rw [List.append_nil]
  | true =>
    show (bs l ++ bs [32, 114]) ++ bs x = bs (l ++ 32 :: 114 :: x)
    rw [app_bs, app_bs]
    simp
theorem catM_bs (u : Bool) (l x : List UInt8) : catM u (bs l) (bs x) = bs (l ++ seg u x) := by
  cases u with
  | false => show bs l = bs (l ++ []); rw [List.append_nil]
  | true =>
    show (bs l ++ bs [32]) ++ bs x = bs (l ++ 32 :: x)
    rw [app_bs, app_bs]
    simp
abbrev TDrew (m : Int) (S : ByteArray) : Prop := ∀ w, Calls Tryz.prog 25 #[.int .i64 m] w fun e w' => e = .returned (.string S) ∧ ∃ j, w' = w.drewN j
set_option maxHeartbeats 4000000 in
theorem refPrint_way (o d a b m : Int) (u0 u1 u2 u3 : Bool) (S D A B M : ByteArray) (hm : -1048576 ≤ m ∧ m ≤ 1048575) (hd : 0 ≤ d ∧ d ≤ 7) (ha : 0 ≤ a ∧ a ≤ 7) (hB : 0 ≤ b ∧ b ≤ 7)
    (C0 : Says Tryz.prog 23 #[insV o d a b m] (.int .i64 0)) (C1 : Says Tryz.prog 11 #[.int .u8 o] (.string S))
    (C2 : Says Tryz.prog 24 #[.int .u8 o] (.agg #[.bool u0, .bool u1, .bool u2, .bool u3]))
    (C3 : TDrew d D) (C4 : TDrew a A) (C5 : TDrew b B) (C6 : TDrew m M)
    (s0 : S.size ≤ 9) (s1 : D.size ≤ 9) (s2 : A.size ≤ 9) (s3 : B.size ≤ 9) (s4 : M.size ≤ 9)
    (hp : u0 = false ∧ u1 = false ∧ u2 = false ∧ u3 = false ∨ u0 = true ∧ u1 = false ∧ u2 = false ∧ u3 = true ∨ u0 = true ∧ u1 = true ∧ u2 = true ∧ u3 = false ∨ u0 = true ∧ u1 = true ∧ u2 = false ∧ u3 = true ∨ u0 = false ∧ u1 = false ∧ u2 = false ∧ u3 = true ∨ u0 = false ∧ u1 = true ∧ u2 = false ∧ u3 = false) :
    Says Tryz.prog 9 #[insV o d a b m] (.tuple #[.string (catM u3 (catR u2 (catR u1 (catR u0 S D) A) B) M), .int .i64 0]) := by
  intro w
  obtain ⟨m0, m1⟩ := hm
  obtain ⟨d0, d1⟩ := hd
  obtain ⟨a0, a1⟩ := ha
  obtain ⟨b0, b1⟩ := hB
  have HC2 := Lib.hid C2
  have H3 := Lib.hid C3
  have H4 := Lib.hid C4
  have H5 := Lib.hid C5
  have H6 := Lib.hid C6
  clear C2 C3 C4 C5 C6
  have hb := Below.refl (w.alloc (.cells #[.int .u8 o, .int .u8 d, .int .u8 a, .int .u8 b, .int .i32 m] 24)).heap.size (w.alloc (.cells #[.int .u8 o, .int .u8 d, .int .u8 a, .int .u8 b, .int .i32 m] 24))
  have hI := Blk.new w 24 #[.int .u8 o, .int .u8 d, .int .u8 a, .int .u8 b, .int .i32 m]
  rcases hp with ⟨rfl, rfl, rfl, rfl⟩ | ⟨rfl, rfl, rfl, rfl⟩ | ⟨rfl, rfl, rfl, rfl⟩ | ⟨rfl, rfl, rfl, rfl⟩ | ⟨rfl, rfl, rfl, rfl⟩ | ⟨rfl, rfl, rfl, rfl⟩
  all_goals dsimp only [catR, catM] at *
  · go_enter Tryz.func9, Tryz.ntmps9
    go_wp2_with (first | (go_at_call 23; refine (inw C0 _ _ hb).mono ?_; rintro e w1 ⟨rfl, hb⟩; obtain ⟨⟨k0, k1, k2, k3, k4⟩, hf, hlt⟩ := blk5 (blk_below hI hb)) | (go_at_call 11; refine (inw C1 _ _ hb).mono ?_; rintro e w1 ⟨rfl, hb⟩; clear k0 k1 k2 k3 k4 hf hlt; obtain ⟨⟨k0, k1, k2, k3, k4⟩, hf, hlt⟩ := blk5 (blk_below hI hb)) | (go_at_call 24; refine (inw HC2.out _ _ hb).mono ?_; rintro e w1 ⟨rfl, hb⟩; clear k0 k1 k2 k3 k4 hf hlt; obtain ⟨⟨k0, k1, k2, k3, k4⟩, hf, hlt⟩ := blk5 (blk_below hI hb)))
    refine wp_loop_rounds 4 ?_
    rw [rounds_succ]
    go_wp2_with (first | (go_at_call 23; refine (inw C0 _ _ hb).mono ?_; rintro e w1 ⟨rfl, hb⟩; obtain ⟨⟨k0, k1, k2, k3, k4⟩, hf, hlt⟩ := blk5 (blk_below hI hb)) | (go_at_call 11; refine (inw C1 _ _ hb).mono ?_; rintro e w1 ⟨rfl, hb⟩; clear k0 k1 k2 k3 k4 hf hlt; obtain ⟨⟨k0, k1, k2, k3, k4⟩, hf, hlt⟩ := blk5 (blk_below hI hb)) | (go_at_call 24; refine (inw HC2.out _ _ hb).mono ?_; rintro e w1 ⟨rfl, hb⟩; clear k0 k1 k2 k3 k4 hf hlt; obtain ⟨⟨k0, k1, k2, k3, k4⟩, hf, hlt⟩ := blk5 (blk_below hI hb)))
    rw [rounds_succ]
    go_wp2_with (first | (go_at_call 23; refine (inw C0 _ _ hb).mono ?_; rintro e w1 ⟨rfl, hb⟩; obtain ⟨⟨k0, k1, k2, k3, k4⟩, hf, hlt⟩ := blk5 (blk_below hI hb)) | (go_at_call 11; refine (inw C1 _ _ hb).mono ?_; rintro e w1 ⟨rfl, hb⟩; clear k0 k1 k2 k3 k4 hf hlt; obtain ⟨⟨k0, k1, k2, k3, k4⟩, hf, hlt⟩ := blk5 (blk_below hI hb)) | (go_at_call 24; refine (inw HC2.out _ _ hb).mono ?_; rintro e w1 ⟨rfl, hb⟩; clear k0 k1 k2 k3 k4 hf hlt; obtain ⟨⟨k0, k1, k2, k3, k4⟩, hf, hlt⟩ := blk5 (blk_below hI hb)))
    rw [rounds_succ]
    go_wp2_with (first | (go_at_call 23; refine (inw C0 _ _ hb).mono ?_; rintro e w1 ⟨rfl, hb⟩; obtain ⟨⟨k0, k1, k2, k3, k4⟩, hf, hlt⟩ := blk5 (blk_below hI hb)) | (go_at_call 11; refine (inw C1 _ _ hb).mono ?_; rintro e w1 ⟨rfl, hb⟩; clear k0 k1 k2 k3 k4 hf hlt; obtain ⟨⟨k0, k1, k2, k3, k4⟩, hf, hlt⟩ := blk5 (blk_below hI hb)) | (go_at_call 24; refine (inw HC2.out _ _ hb).mono ?_; rintro e w1 ⟨rfl, hb⟩; clear k0 k1 k2 k3 k4 hf hlt; obtain ⟨⟨k0, k1, k2, k3, k4⟩, hf, hlt⟩ := blk5 (blk_below hI hb)))
    rw [rounds_succ]
    go_wp2_with (first | (go_at_call 23; refine (inw C0 _ _ hb).mono ?_; rintro e w1 ⟨rfl, hb⟩; obtain ⟨⟨k0, k1, k2, k3, k4⟩, hf, hlt⟩ := blk5 (blk_below hI hb)) | (go_at_call 11; refine (inw C1 _ _ hb).mono ?_; rintro e w1 ⟨rfl, hb⟩; clear k0 k1 k2 k3 k4 hf hlt; obtain ⟨⟨k0, k1, k2, k3, k4⟩, hf, hlt⟩ := blk5 (blk_below hI hb)) | (go_at_call 24; refine (inw HC2.out _ _ hb).mono ?_; rintro e w1 ⟨rfl, hb⟩; clear k0 k1 k2 k3 k4 hf hlt; obtain ⟨⟨k0, k1, k2, k3, k4⟩, hf, hlt⟩ := blk5 (blk_below hI hb)))
    go_ret2
    exact ⟨rfl, btr (end_alloc hb) (by first | exact bdr (ball (below_new _ _)) | exact ball (below_new _ _))⟩
  · go_enter Tryz.func9, Tryz.ntmps9
    go_wp2_with (first | (go_at_call 23; refine (inw C0 _ _ hb).mono ?_; rintro e w1 ⟨rfl, hb⟩; obtain ⟨⟨k0, k1, k2, k3, k4⟩, hf, hlt⟩ := blk5 (blk_below hI hb)) | (go_at_call 11; refine (inw C1 _ _ hb).mono ?_; rintro e w1 ⟨rfl, hb⟩; clear k0 k1 k2 k3 k4 hf hlt; obtain ⟨⟨k0, k1, k2, k3, k4⟩, hf, hlt⟩ := blk5 (blk_below hI hb)) | (go_at_call 24; refine (inw HC2.out _ _ hb).mono ?_; rintro e w1 ⟨rfl, hb⟩; clear k0 k1 k2 k3 k4 hf hlt; obtain ⟨⟨k0, k1, k2, k3, k4⟩, hf, hlt⟩ := blk5 (blk_below hI hb)) | (go_at_call 25; (first | (with_reducible refine (H3.out _).mono ?_) | (with_reducible refine (H6.out _).mono ?_)); rintro e w2 ⟨rfl, n, rfl⟩))
    refine wp_loop_rounds 4 ?_
    rw [rounds_succ]
    go_wp2_with (first | (go_at_call 23; refine (inw C0 _ _ hb).mono ?_; rintro e w1 ⟨rfl, hb⟩; obtain ⟨⟨k0, k1, k2, k3, k4⟩, hf, hlt⟩ := blk5 (blk_below hI hb)) | (go_at_call 11; refine (inw C1 _ _ hb).mono ?_; rintro e w1 ⟨rfl, hb⟩; clear k0 k1 k2 k3 k4 hf hlt; obtain ⟨⟨k0, k1, k2, k3, k4⟩, hf, hlt⟩ := blk5 (blk_below hI hb)) | (go_at_call 24; refine (inw HC2.out _ _ hb).mono ?_; rintro e w1 ⟨rfl, hb⟩; clear k0 k1 k2 k3 k4 hf hlt; obtain ⟨⟨k0, k1, k2, k3, k4⟩, hf, hlt⟩ := blk5 (blk_below hI hb)) | (go_at_call 25; (first | (with_reducible refine (H3.out _).mono ?_) | (with_reducible refine (H6.out _).mono ?_)); rintro e w2 ⟨rfl, n, rfl⟩))
    rw [rounds_succ]
    go_wp2_with (first | (go_at_call 23; refine (inw C0 _ _ hb).mono ?_; rintro e w1 ⟨rfl, hb⟩; obtain ⟨⟨k0, k1, k2, k3, k4⟩, hf, hlt⟩ := blk5 (blk_below hI hb)) | (go_at_call 11; refine (inw C1 _ _ hb).mono ?_; rintro e w1 ⟨rfl, hb⟩; clear k0 k1 k2 k3 k4 hf hlt; obtain ⟨⟨k0, k1, k2, k3, k4⟩, hf, hlt⟩ := blk5 (blk_below hI hb)) | (go_at_call 24; refine (inw HC2.out _ _ hb).mono ?_; rintro e w1 ⟨rfl, hb⟩; clear k0 k1 k2 k3 k4 hf hlt; obtain ⟨⟨k0, k1, k2, k3, k4⟩, hf, hlt⟩ := blk5 (blk_below hI hb)) | (go_at_call 25; (first | (with_reducible refine (H3.out _).mono ?_) | (with_reducible refine (H6.out _).mono ?_)); rintro e w2 ⟨rfl, n, rfl⟩))
    rw [rounds_succ]
    go_wp2_with (first | (go_at_call 23; refine (inw C0 _ _ hb).mono ?_; rintro e w1 ⟨rfl, hb⟩; obtain ⟨⟨k0, k1, k2, k3, k4⟩, hf, hlt⟩ := blk5 (blk_below hI hb)) | (go_at_call 11; refine (inw C1 _ _ hb).mono ?_; rintro e w1 ⟨rfl, hb⟩; clear k0 k1 k2 k3 k4 hf hlt; obtain ⟨⟨k0, k1, k2, k3, k4⟩, hf, hlt⟩ := blk5 (blk_below hI hb)) | (go_at_call 24; refine (inw HC2.out _ _ hb).mono ?_; rintro e w1 ⟨rfl, hb⟩; clear k0 k1 k2 k3 k4 hf hlt; obtain ⟨⟨k0, k1, k2, k3, k4⟩, hf, hlt⟩ := blk5 (blk_below hI hb)) | (go_at_call 25; (first | (with_reducible refine (H3.out _).mono ?_) | (with_reducible refine (H6.out _).mono ?_)); rintro e w2 ⟨rfl, n, rfl⟩))
    rw [rounds_succ]
    go_wp2_with (first | (go_at_call 23; refine (inw C0 _ _ hb).mono ?_; rintro e w1 ⟨rfl, hb⟩; obtain ⟨⟨k0, k1, k2, k3, k4⟩, hf, hlt⟩ := blk5 (blk_below hI hb)) | (go_at_call 11; refine (inw C1 _ _ hb).mono ?_; rintro e w1 ⟨rfl, hb⟩; clear k0 k1 k2 k3 k4 hf hlt; obtain ⟨⟨k0, k1, k2, k3, k4⟩, hf, hlt⟩ := blk5 (blk_below hI hb)) | (go_at_call 24; refine (inw HC2.out _ _ hb).mono ?_; rintro e w1 ⟨rfl, hb⟩; clear k0 k1 k2 k3 k4 hf hlt; obtain ⟨⟨k0, k1, k2, k3, k4⟩, hf, hlt⟩ := blk5 (blk_below hI hb)) | (go_at_call 25; (first | (with_reducible refine (H3.out _).mono ?_) | (with_reducible refine (H6.out _).mono ?_)); rintro e w2 ⟨rfl, n, rfl⟩))
    go_ret2
    exact ⟨rfl, btr (end_alloc hb) (by first | exact bdr (ball (below_new _ _)) | exact ball (below_new _ _))⟩
  · go_enter Tryz.func9, Tryz.ntmps9
    go_wp2_with (first | (go_at_call 23; refine (inw C0 _ _ hb).mono ?_; rintro e w1 ⟨rfl, hb⟩; obtain ⟨⟨k0, k1, k2, k3, k4⟩, hf, hlt⟩ := blk5 (blk_below hI hb)) | (go_at_call 11; refine (inw C1 _ _ hb).mono ?_; rintro e w1 ⟨rfl, hb⟩; clear k0 k1 k2 k3 k4 hf hlt; obtain ⟨⟨k0, k1, k2, k3, k4⟩, hf, hlt⟩ := blk5 (blk_below hI hb)) | (go_at_call 24; refine (inw HC2.out _ _ hb).mono ?_; rintro e w1 ⟨rfl, hb⟩; clear k0 k1 k2 k3 k4 hf hlt; obtain ⟨⟨k0, k1, k2, k3, k4⟩, hf, hlt⟩ := blk5 (blk_below hI hb)) | (go_at_call 25; (first | (with_reducible refine (H3.out _).mono ?_) | (with_reducible refine (H4.out _).mono ?_) | (with_reducible refine (H5.out _).mono ?_)); rintro e w2 ⟨rfl, n, rfl⟩))
    refine wp_loop_rounds 4 ?_
    rw [rounds_succ]
    go_wp2_with (first | (go_at_call 23; refine (inw C0 _ _ hb).mono ?_; rintro e w1 ⟨rfl, hb⟩; obtain ⟨⟨k0, k1, k2, k3, k4⟩, hf, hlt⟩ := blk5 (blk_below hI hb)) | (go_at_call 11; refine (inw C1 _ _ hb).mono ?_; rintro e w1 ⟨rfl, hb⟩; clear k0 k1 k2 k3 k4 hf hlt; obtain ⟨⟨k0, k1, k2, k3, k4⟩, hf, hlt⟩ := blk5 (blk_below hI hb)) | (go_at_call 24; refine (inw HC2.out _ _ hb).mono ?_; rintro e w1 ⟨rfl, hb⟩; clear k0 k1 k2 k3 k4 hf hlt; obtain ⟨⟨k0, k1, k2, k3, k4⟩, hf, hlt⟩ := blk5 (blk_below hI hb)) | (go_at_call 25; (first | (with_reducible refine (H3.out _).mono ?_) | (with_reducible refine (H4.out _).mono ?_) | (with_reducible refine (H5.out _).mono ?_)); rintro e w2 ⟨rfl, n, rfl⟩))
    rw [rounds_succ]
    go_wp2_with (first | (go_at_call 23; refine (inw C0 _ _ hb).mono ?_; rintro e w1 ⟨rfl, hb⟩; obtain ⟨⟨k0, k1, k2, k3, k4⟩, hf, hlt⟩ := blk5 (blk_below hI hb)) | (go_at_call 11; refine (inw C1 _ _ hb).mono ?_; rintro e w1 ⟨rfl, hb⟩; clear k0 k1 k2 k3 k4 hf hlt; obtain ⟨⟨k0, k1, k2, k3, k4⟩, hf, hlt⟩ := blk5 (blk_below hI hb)) | (go_at_call 24; refine (inw HC2.out _ _ hb).mono ?_; rintro e w1 ⟨rfl, hb⟩; clear k0 k1 k2 k3 k4 hf hlt; obtain ⟨⟨k0, k1, k2, k3, k4⟩, hf, hlt⟩ := blk5 (blk_below hI hb)) | (go_at_call 25; (first | (with_reducible refine (H3.out _).mono ?_) | (with_reducible refine (H4.out _).mono ?_) | (with_reducible refine (H5.out _).mono ?_)); rintro e w2 ⟨rfl, n, rfl⟩))
    rw [rounds_succ]
    go_wp2_with (first | (go_at_call 23; refine (inw C0 _ _ hb).mono ?_; rintro e w1 ⟨rfl, hb⟩; obtain ⟨⟨k0, k1, k2, k3, k4⟩, hf, hlt⟩ := blk5 (blk_below hI hb)) | (go_at_call 11; refine (inw C1 _ _ hb).mono ?_; rintro e w1 ⟨rfl, hb⟩; clear k0 k1 k2 k3 k4 hf hlt; obtain ⟨⟨k0, k1, k2, k3, k4⟩, hf, hlt⟩ := blk5 (blk_below hI hb)) | (go_at_call 24; refine (inw HC2.out _ _ hb).mono ?_; rintro e w1 ⟨rfl, hb⟩; clear k0 k1 k2 k3 k4 hf hlt; obtain ⟨⟨k0, k1, k2, k3, k4⟩, hf, hlt⟩ := blk5 (blk_below hI hb)) | (go_at_call 25; (first | (with_reducible refine (H3.out _).mono ?_) | (with_reducible refine (H4.out _).mono ?_) | (with_reducible refine (H5.out _).mono ?_)); rintro e w2 ⟨rfl, n, rfl⟩))
    rw [rounds_succ]
    go_wp2_with (first | (go_at_call 23; refine (inw C0 _ _ hb).mono ?_; rintro e w1 ⟨rfl, hb⟩; obtain ⟨⟨k0, k1, k2, k3, k4⟩, hf, hlt⟩ := blk5 (blk_below hI hb)) | (go_at_call 11; refine (inw C1 _ _ hb).mono ?_; rintro e w1 ⟨rfl, hb⟩; clear k0 k1 k2 k3 k4 hf hlt; obtain ⟨⟨k0, k1, k2, k3, k4⟩, hf, hlt⟩ := blk5 (blk_below hI hb)) | (go_at_call 24; refine (inw HC2.out _ _ hb).mono ?_; rintro e w1 ⟨rfl, hb⟩; clear k0 k1 k2 k3 k4 hf hlt; obtain ⟨⟨k0, k1, k2, k3, k4⟩, hf, hlt⟩ := blk5 (blk_below hI hb)) | (go_at_call 25; (first | (with_reducible refine (H3.out _).mono ?_) | (with_reducible refine (H4.out _).mono ?_) | (with_reducible refine (H5.out _).mono ?_)); rintro e w2 ⟨rfl, n, rfl⟩))
    go_ret2
    exact ⟨rfl, btr (end_alloc hb) (by first | exact bdr (ball (below_new _ _)) | exact ball (below_new _ _))⟩
  · go_enter Tryz.func9, Tryz.ntmps9
    go_wp2_with (first | (go_at_call 23; refine (inw C0 _ _ hb).mono ?_; rintro e w1 ⟨rfl, hb⟩; obtain ⟨⟨k0, k1, k2, k3, k4⟩, hf, hlt⟩ := blk5 (blk_below hI hb)) | (go_at_call 11; refine (inw C1 _ _ hb).mono ?_; rintro e w1 ⟨rfl, hb⟩; clear k0 k1 k2 k3 k4 hf hlt; obtain ⟨⟨k0, k1, k2, k3, k4⟩, hf, hlt⟩ := blk5 (blk_below hI hb)) | (go_at_call 24; refine (inw HC2.out _ _ hb).mono ?_; rintro e w1 ⟨rfl, hb⟩; clear k0 k1 k2 k3 k4 hf hlt; obtain ⟨⟨k0, k1, k2, k3, k4⟩, hf, hlt⟩ := blk5 (blk_below hI hb)) | (go_at_call 25; (first | (with_reducible refine (H3.out _).mono ?_) | (with_reducible refine (H4.out _).mono ?_) | (with_reducible refine (H6.out _).mono ?_)); rintro e w2 ⟨rfl, n, rfl⟩))
    refine wp_loop_rounds 4 ?_
    rw [rounds_succ]
    go_wp2_with (first | (go_at_call 23; refine (inw C0 _ _ hb).mono ?_; rintro e w1 ⟨rfl, hb⟩; obtain ⟨⟨k0, k1, k2, k3, k4⟩, hf, hlt⟩ := blk5 (blk_below hI hb)) | (go_at_call 11; refine (inw C1 _ _ hb).mono ?_; rintro e w1 ⟨rfl, hb⟩; clear k0 k1 k2 k3 k4 hf hlt; obtain ⟨⟨k0, k1, k2, k3, k4⟩, hf, hlt⟩ := blk5 (blk_below hI hb)) | (go_at_call 24; refine (inw HC2.out _ _ hb).mono ?_; rintro e w1 ⟨rfl, hb⟩; clear k0 k1 k2 k3 k4 hf hlt; obtain ⟨⟨k0, k1, k2, k3, k4⟩, hf, hlt⟩ := blk5 (blk_below hI hb)) | (go_at_call 25; (first | (with_reducible refine (H3.out _).mono ?_) | (with_reducible refine (H4.out _).mono ?_) | (with_reducible refine (H6.out _).mono ?_)); rintro e w2 ⟨rfl, n, rfl⟩))
    rw [rounds_succ]
    go_wp2_with (first | (go_at_call 23; refine (inw C0 _ _ hb).mono ?_; rintro e w1 ⟨rfl, hb⟩; obtain ⟨⟨k0, k1, k2, k3, k4⟩, hf, hlt⟩ := blk5 (blk_below hI hb)) | (go_at_call 11; refine (inw C1 _ _ hb).mono ?_; rintro e w1 ⟨rfl, hb⟩; clear k0 k1 k2 k3 k4 hf hlt; obtain ⟨⟨k0, k1, k2, k3, k4⟩, hf, hlt⟩ := blk5 (blk_below hI hb)) | (go_at_call 24; refine (inw HC2.out _ _ hb).mono ?_; rintro e w1 ⟨rfl, hb⟩; clear k0 k1 k2 k3 k4 hf hlt; obtain ⟨⟨k0, k1, k2, k3, k4⟩, hf, hlt⟩ := blk5 (blk_below hI hb)) | (go_at_call 25; (first | (with_reducible refine (H3.out _).mono ?_) | (with_reducible refine (H4.out _).mono ?_) | (with_reducible refine (H6.out _).mono ?_)); rintro e w2 ⟨rfl, n, rfl⟩))
    rw [rounds_succ]
    go_wp2_with (first | (go_at_call 23; refine (inw C0 _ _ hb).mono ?_; rintro e w1 ⟨rfl, hb⟩; obtain ⟨⟨k0, k1, k2, k3, k4⟩, hf, hlt⟩ := blk5 (blk_below hI hb)) | (go_at_call 11; refine (inw C1 _ _ hb).mono ?_; rintro e w1 ⟨rfl, hb⟩; clear k0 k1 k2 k3 k4 hf hlt; obtain ⟨⟨k0, k1, k2, k3, k4⟩, hf, hlt⟩ := blk5 (blk_below hI hb)) | (go_at_call 24; refine (inw HC2.out _ _ hb).mono ?_; rintro e w1 ⟨rfl, hb⟩; clear k0 k1 k2 k3 k4 hf hlt; obtain ⟨⟨k0, k1, k2, k3, k4⟩, hf, hlt⟩ := blk5 (blk_below hI hb)) | (go_at_call 25; (first | (with_reducible refine (H3.out _).mono ?_) | (with_reducible refine (H4.out _).mono ?_) | (with_reducible refine (H6.out _).mono ?_)); rintro e w2 ⟨rfl, n, rfl⟩))
    rw [rounds_succ]
    go_wp2_with (first | (go_at_call 23; refine (inw C0 _ _ hb).mono ?_; rintro e w1 ⟨rfl, hb⟩; obtain ⟨⟨k0, k1, k2, k3, k4⟩, hf, hlt⟩ := blk5 (blk_below hI hb)) | (go_at_call 11; refine (inw C1 _ _ hb).mono ?_; rintro e w1 ⟨rfl, hb⟩; clear k0 k1 k2 k3 k4 hf hlt; obtain ⟨⟨k0, k1, k2, k3, k4⟩, hf, hlt⟩ := blk5 (blk_below hI hb)) | (go_at_call 24; refine (inw HC2.out _ _ hb).mono ?_; rintro e w1 ⟨rfl, hb⟩; clear k0 k1 k2 k3 k4 hf hlt; obtain ⟨⟨k0, k1, k2, k3, k4⟩, hf, hlt⟩ := blk5 (blk_below hI hb)) | (go_at_call 25; (first | (with_reducible refine (H3.out _).mono ?_) | (with_reducible refine (H4.out _).mono ?_) | (with_reducible refine (H6.out _).mono ?_)); rintro e w2 ⟨rfl, n, rfl⟩))
    go_ret2
    exact ⟨rfl, btr (end_alloc hb) (by first | exact bdr (ball (below_new _ _)) | exact ball (below_new _ _))⟩
  · go_enter Tryz.func9, Tryz.ntmps9
    go_wp2_with (first | (go_at_call 23; refine (inw C0 _ _ hb).mono ?_; rintro e w1 ⟨rfl, hb⟩; obtain ⟨⟨k0, k1, k2, k3, k4⟩, hf, hlt⟩ := blk5 (blk_below hI hb)) | (go_at_call 11; refine (inw C1 _ _ hb).mono ?_; rintro e w1 ⟨rfl, hb⟩; clear k0 k1 k2 k3 k4 hf hlt; obtain ⟨⟨k0, k1, k2, k3, k4⟩, hf, hlt⟩ := blk5 (blk_below hI hb)) | (go_at_call 24; refine (inw HC2.out _ _ hb).mono ?_; rintro e w1 ⟨rfl, hb⟩; clear k0 k1 k2 k3 k4 hf hlt; obtain ⟨⟨k0, k1, k2, k3, k4⟩, hf, hlt⟩ := blk5 (blk_below hI hb)) | (go_at_call 25; (first | (with_reducible refine (H6.out _).mono ?_)); rintro e w2 ⟨rfl, n, rfl⟩))
    refine wp_loop_rounds 4 ?_
    rw [rounds_succ]
    go_wp2_with (first | (go_at_call 23; refine (inw C0 _ _ hb).mono ?_; rintro e w1 ⟨rfl, hb⟩; obtain ⟨⟨k0, k1, k2, k3, k4⟩, hf, hlt⟩ := blk5 (blk_below hI hb)) | (go_at_call 11; refine (inw C1 _ _ hb).mono ?_; rintro e w1 ⟨rfl, hb⟩; clear k0 k1 k2 k3 k4 hf hlt; obtain ⟨⟨k0, k1, k2, k3, k4⟩, hf, hlt⟩ := blk5 (blk_below hI hb)) | (go_at_call 24; refine (inw HC2.out _ _ hb).mono ?_; rintro e w1 ⟨rfl, hb⟩; clear k0 k1 k2 k3 k4 hf hlt; obtain ⟨⟨k0, k1, k2, k3, k4⟩, hf, hlt⟩ := blk5 (blk_below hI hb)) | (go_at_call 25; (first | (with_reducible refine (H6.out _).mono ?_)); rintro e w2 ⟨rfl, n, rfl⟩))
    rw [rounds_succ]
    go_wp2_with (first | (go_at_call 23; refine (inw C0 _ _ hb).mono ?_; rintro e w1 ⟨rfl, hb⟩; obtain ⟨⟨k0, k1, k2, k3, k4⟩, hf, hlt⟩ := blk5 (blk_below hI hb)) | (go_at_call 11; refine (inw C1 _ _ hb).mono ?_; rintro e w1 ⟨rfl, hb⟩; clear k0 k1 k2 k3 k4 hf hlt; obtain ⟨⟨k0, k1, k2, k3, k4⟩, hf, hlt⟩ := blk5 (blk_below hI hb)) | (go_at_call 24; refine (inw HC2.out _ _ hb).mono ?_; rintro e w1 ⟨rfl, hb⟩; clear k0 k1 k2 k3 k4 hf hlt; obtain ⟨⟨k0, k1, k2, k3, k4⟩, hf, hlt⟩ := blk5 (blk_below hI hb)) | (go_at_call 25; (first | (with_reducible refine (H6.out _).mono ?_)); rintro e w2 ⟨rfl, n, rfl⟩))
    rw [rounds_succ]
    go_wp2_with (first | (go_at_call 23; refine (inw C0 _ _ hb).mono ?_; rintro e w1 ⟨rfl, hb⟩; obtain ⟨⟨k0, k1, k2, k3, k4⟩, hf, hlt⟩ := blk5 (blk_below hI hb)) | (go_at_call 11; refine (inw C1 _ _ hb).mono ?_; rintro e w1 ⟨rfl, hb⟩; clear k0 k1 k2 k3 k4 hf hlt; obtain ⟨⟨k0, k1, k2, k3, k4⟩, hf, hlt⟩ := blk5 (blk_below hI hb)) | (go_at_call 24; refine (inw HC2.out _ _ hb).mono ?_; rintro e w1 ⟨rfl, hb⟩; clear k0 k1 k2 k3 k4 hf hlt; obtain ⟨⟨k0, k1, k2, k3, k4⟩, hf, hlt⟩ := blk5 (blk_below hI hb)) | (go_at_call 25; (first | (with_reducible refine (H6.out _).mono ?_)); rintro e w2 ⟨rfl, n, rfl⟩))
    rw [rounds_succ]
    go_wp2_with (first | (go_at_call 23; refine (inw C0 _ _ hb).mono ?_; rintro e w1 ⟨rfl, hb⟩; obtain ⟨⟨k0, k1, k2, k3, k4⟩, hf, hlt⟩ := blk5 (blk_below hI hb)) | (go_at_call 11; refine (inw C1 _ _ hb).mono ?_; rintro e w1 ⟨rfl, hb⟩; clear k0 k1 k2 k3 k4 hf hlt; obtain ⟨⟨k0, k1, k2, k3, k4⟩, hf, hlt⟩ := blk5 (blk_below hI hb)) | (go_at_call 24; refine (inw HC2.out _ _ hb).mono ?_; rintro e w1 ⟨rfl, hb⟩; clear k0 k1 k2 k3 k4 hf hlt; obtain ⟨⟨k0, k1, k2, k3, k4⟩, hf, hlt⟩ := blk5 (blk_below hI hb)) | (go_at_call 25; (first | (with_reducible refine (H6.out _).mono ?_)); rintro e w2 ⟨rfl, n, rfl⟩))
    go_ret2
    exact ⟨rfl, btr (end_alloc hb) (by first | exact bdr (ball (below_new _ _)) | exact ball (below_new _ _))⟩
  · go_enter Tryz.func9, Tryz.ntmps9
    go_wp2_with (first | (go_at_call 23; refine (inw C0 _ _ hb).mono ?_; rintro e w1 ⟨rfl, hb⟩; obtain ⟨⟨k0, k1, k2, k3, k4⟩, hf, hlt⟩ := blk5 (blk_below hI hb)) | (go_at_call 11; refine (inw C1 _ _ hb).mono ?_; rintro e w1 ⟨rfl, hb⟩; clear k0 k1 k2 k3 k4 hf hlt; obtain ⟨⟨k0, k1, k2, k3, k4⟩, hf, hlt⟩ := blk5 (blk_below hI hb)) | (go_at_call 24; refine (inw HC2.out _ _ hb).mono ?_; rintro e w1 ⟨rfl, hb⟩; clear k0 k1 k2 k3 k4 hf hlt; obtain ⟨⟨k0, k1, k2, k3, k4⟩, hf, hlt⟩ := blk5 (blk_below hI hb)) | (go_at_call 25; (first | (with_reducible refine (H4.out _).mono ?_)); rintro e w2 ⟨rfl, n, rfl⟩))
    refine wp_loop_rounds 4 ?_
    rw [rounds_succ]
    go_wp2_with (first | (go_at_call 23; refine (inw C0 _ _ hb).mono ?_; rintro e w1 ⟨rfl, hb⟩; obtain ⟨⟨k0, k1, k2, k3, k4⟩, hf, hlt⟩ := blk5 (blk_below hI hb)) | (go_at_call 11; refine (inw C1 _ _ hb).mono ?_; rintro e w1 ⟨rfl, hb⟩; clear k0 k1 k2 k3 k4 hf hlt; obtain ⟨⟨k0, k1, k2, k3, k4⟩, hf, hlt⟩ := blk5 (blk_below hI hb)) | (go_at_call 24; refine (inw HC2.out _ _ hb).mono ?_; rintro e w1 ⟨rfl, hb⟩; clear k0 k1 k2 k3 k4 hf hlt; obtain ⟨⟨k0, k1, k2, k3, k4⟩, hf, hlt⟩ := blk5 (blk_below hI hb)) | (go_at_call 25; (first | (with_reducible refine (H4.out _).mono ?_)); rintro e w2 ⟨rfl, n, rfl⟩))
    rw [rounds_succ]
    go_wp2_with (first | (go_at_call 23; refine (inw C0 _ _ hb).mono ?_; rintro e w1 ⟨rfl, hb⟩; obtain ⟨⟨k0, k1, k2, k3, k4⟩, hf, hlt⟩ := blk5 (blk_below hI hb)) | (go_at_call 11; refine (inw C1 _ _ hb).mono ?_; rintro e w1 ⟨rfl, hb⟩; clear k0 k1 k2 k3 k4 hf hlt; obtain ⟨⟨k0, k1, k2, k3, k4⟩, hf, hlt⟩ := blk5 (blk_below hI hb)) | (go_at_call 24; refine (inw HC2.out _ _ hb).mono ?_; rintro e w1 ⟨rfl, hb⟩; clear k0 k1 k2 k3 k4 hf hlt; obtain ⟨⟨k0, k1, k2, k3, k4⟩, hf, hlt⟩ := blk5 (blk_below hI hb)) | (go_at_call 25; (first | (with_reducible refine (H4.out _).mono ?_)); rintro e w2 ⟨rfl, n, rfl⟩))
    rw [rounds_succ]
    go_wp2_with (first | (go_at_call 23; refine (inw C0 _ _ hb).mono ?_; rintro e w1 ⟨rfl, hb⟩; obtain ⟨⟨k0, k1, k2, k3, k4⟩, hf, hlt⟩ := blk5 (blk_below hI hb)) | (go_at_call 11; refine (inw C1 _ _ hb).mono ?_; rintro e w1 ⟨rfl, hb⟩; clear k0 k1 k2 k3 k4 hf hlt; obtain ⟨⟨k0, k1, k2, k3, k4⟩, hf, hlt⟩ := blk5 (blk_below hI hb)) | (go_at_call 24; refine (inw HC2.out _ _ hb).mono ?_; rintro e w1 ⟨rfl, hb⟩; clear k0 k1 k2 k3 k4 hf hlt; obtain ⟨⟨k0, k1, k2, k3, k4⟩, hf, hlt⟩ := blk5 (blk_below hI hb)) | (go_at_call 25; (first | (with_reducible refine (H4.out _).mono ?_)); rintro e w2 ⟨rfl, n, rfl⟩))
    rw [rounds_succ]
    go_wp2_with (first | (go_at_call 23; refine (inw C0 _ _ hb).mono ?_; rintro e w1 ⟨rfl, hb⟩; obtain ⟨⟨k0, k1, k2, k3, k4⟩, hf, hlt⟩ := blk5 (blk_below hI hb)) | (go_at_call 11; refine (inw C1 _ _ hb).mono ?_; rintro e w1 ⟨rfl, hb⟩; clear k0 k1 k2 k3 k4 hf hlt; obtain ⟨⟨k0, k1, k2, k3, k4⟩, hf, hlt⟩ := blk5 (blk_below hI hb)) | (go_at_call 24; refine (inw HC2.out _ _ hb).mono ?_; rintro e w1 ⟨rfl, hb⟩; clear k0 k1 k2 k3 k4 hf hlt; obtain ⟨⟨k0, k1, k2, k3, k4⟩, hf, hlt⟩ := blk5 (blk_below hI hb)) | (go_at_call 25; (first | (with_reducible refine (H4.out _).mono ?_)); rintro e w2 ⟨rfl, n, rfl⟩))
    go_ret2
    exact ⟨rfl, btr (end_alloc hb) (by first | exact bdr (ball (below_new _ _)) | exact ball (below_new _ _))⟩
theorem refPrint_yes (o d a b m : Int) (h : InsOk o d a b m) : Says Tryz.prog 9 #[insV o d a b m] (.tuple #[.string (bs (pr o d a b m)), .int .i64 0]) := by
  have h' := h
  unfold InsOk at h'
  have C0 := refCheck_any o d a b m (ins_fit h)
  rw [(chk_good (by omega) (by omega) (by omega) (by omega)).2 h] at C0
  have C := refPrint_way o d a b m (uD o) (uA o) (uB o) (uI o) (bs (mn o)) (bs (Lib.itoa d)) (bs (Lib.itoa a)) (bs (Lib.itoa b)) (bs (Lib.itoa m)) (by omega) (by omega) (by omega) (by omega) C0 (refMnem_any o (by omega)) (refUses_any o (by omega))
    (told_drew d (by omega)) (told_drew a (by omega)) (told_drew b (by omega)) (told_drew m (by omega)) (by rw [bs_size]; have := (mn_fine (o := o) (by omega)).2.2.2.1; omega)
    (by rw [bs_size, itoa_reg (by omega)]; simp) (by rw [bs_size, itoa_reg (by omega)]; simp) (by rw [bs_size, itoa_reg (by omega)]; simp) (by rw [bs_size]; have := itoa_len m (by omega); omega) (uses_pat (by omega))
  rw [catR_bs, catR_bs, catR_bs, catM_bs] at C
  rw [show pr o d a b m = mn o ++ seg (uD o) (rg d) ++ seg (uA o) (rg a) ++ seg (uB o) (rg b) ++ seg (uI o) (Lib.itoa m) by unfold pr; simp only [List.append_assoc]]
  exact C
theorem refPrint_no (o d a b m K : Int) (h : Fit o d a b m) (hK : chk o d a b m = K) (h0 : K ≠ 0) : Says Tryz.prog 9 #[insV o d a b m] (.tuple #[.string ⟨#[]⟩, .int .i64 K]) := by
  intro w
  have C0 := refCheck_any o d a b m h
  rw [hK] at C0
  have h0' : (K != 0) = true := by simpa using h0
  clear hK h h0
  have hb := Below.refl (w.alloc (.cells #[.int .u8 o, .int .u8 d, .int .u8 a, .int .u8 b, .int .i32 m] 24)).heap.size (w.alloc (.cells #[.int .u8 o, .int .u8 d, .int .u8 a, .int .u8 b, .int .i32 m] 24))
  go_enter Tryz.func9, Tryz.ntmps9
  go_wp2_with (go_at_call 23; refine (inw C0 _ _ hb).mono ?_; rintro e w1 ⟨rfl, hb⟩; obtain ⟨hc, hf⟩ := bcell hb)
  go_ret2
  exact ⟨rfl, end_alloc hb⟩
theorem refPrint_any (i : I5) (h : Fit i.1 i.2.1 i.2.2.1 i.2.2.2.1 i.2.2.2.2) : Says Tryz.prog 9 #[insI i] (.tuple #[.string (bs (prK i)), .int .i64 (chkI i)]) := by
  obtain ⟨o, d, a, b, m⟩ := i
  have h' := h
  simp only [Fit] at h'
  unfold prK
  by_cases e : chkI (o, d, a, b, m) = 0
  · rw [if_pos e, e]
    exact refPrint_yes o d a b m ((chk_good (by omega) (by omega) (by omega) (by omega)).1 e)
  · rw [if_neg e]
    exact refPrint_no o d a b m _ h rfl e
end Go.Proofs.YtoohfmkhjhcopaaGreatDoor.AF
