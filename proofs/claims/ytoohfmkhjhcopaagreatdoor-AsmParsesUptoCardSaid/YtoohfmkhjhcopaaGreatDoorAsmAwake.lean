/-
  The lines that every law of layer 5 asks. Nothing here is a statement of the seed.
-/
import Derived.Test.YtoohfmkhjhcopaaGreatDoorAsmAsm
set_option linter.unusedSimpArgs false
set_option linter.unusedVariables false
namespace Go.Proofs.YtoohfmkhjhcopaaGreatDoor.AF
open Go.RowKit WM IM WF IF AM NR

theorem wds_app (a b : List Ln) : wdsOf (a ++ b) = wdsOf a ++ wdsOf b := by simp [wdsOf]
theorem no_bad {L init r : List Ln} {x : Ln} {k : Int} (h : ∀ y ∈ L, Fine y) (hl : (wdsOf L).length ≤ 512) (e : L = init ++ x :: r) : ¬ Bad init x k := by
  rintro ⟨_, _, h2, h3⟩
  have hx := h x (by rw [e]; simp)
  rcases hx with hx | ⟨w, hx⟩
  · rw [h2] at hx; cases hx
  · rcases h3 with ⟨h3, _⟩ | ⟨_, h3, _⟩
    · rw [hx] at h3; cases h3
    · rw [e, show init ++ x :: r = (init ++ [x]) ++ r by simp, wds_app, wds_word h2 hx] at hl
      simp at hl
      omega
theorem assemble_good (T : List UInt8) (hT : T.length ≤ 140737488355328) (h : ∀ y ∈ lnsA 0 T, Fine y) (hl : (wdsOf (lnsA 0 T)).length ≤ 512) (w : World) (hTab : Tab w) :
    Calls Tryz.prog 17 #[.string (bs T)] w fun e w' => ∃ v, e = .returned (.tuple #[v, .int .i64 0, .int .i64 0]) ∧ w'.ownsRow w.heap.size 57 1 v (wdsOf (lnsA 0 T)).length ((wdsOf (lnsA 0 T)).map (Value.int .u32)) ∧ Below w.heap.size w w' :=
  (assemble_any T hT w hTab).mono fun e w' ⟨hb, hp⟩ => by
    rcases hp with ⟨v, _, _, he, hrow⟩ | ⟨init, x, r, k, hL, hbad, _⟩
    · exact ⟨v, he, hrow, hb⟩
    · exact absurd hbad (no_bad h hl hL)
/-! the three texts -/
def t1 : List UInt8 := [108, 100, 32, 114, 49, 32, 114, 50, 32, 45, 52]
def t2 : List UInt8 := [108, 105, 32, 114, 49, 32, 48, 53]
def t3 : List UInt8 := [59, 32, 120, 10, 104, 97, 108, 116, 10, 119, 111, 114, 100, 32, 48, 48, 48, 48, 48, 48, 48, 55]
theorem dig1 (d : Nat) (h : d < 10) : Lib.decDigits d = [UInt8.ofNat (48 + d)] := by rw [Lib.decDigits, dif_pos h]
theorem t1_pr : pr 12 1 2 0 (-4) = t1 := by
  unfold pr rg Lib.itoa
  rw [if_neg (by decide), if_neg (by decide), if_neg (by decide), if_pos (by decide), dig1 _ (by decide), dig1 _ (by decide), dig1 _ (by decide), dig1 _ (by decide)]
  decide
theorem t1_ok : InsOk 12 1 2 0 (-4) := by unfold InsOk; omega
theorem t2_no : pC t2 = none := by
  have hg : guess t2 = some (2, 1, 0, 0, 5) := by decide
  unfold pC
  rw [hg]
  have hp : prI (2, 1, 0, 0, 5) ≠ t2 := by
    show pr 2 1 0 0 5 ≠ t2
    unfold pr rg Lib.itoa
    rw [if_neg (by decide), if_neg (by decide), if_neg (by decide), dig1 _ (by decide), dig1 _ (by decide), dig1 _ (by decide)]
    decide
  simp only
  rw [if_neg (fun h => hp h.2)]
theorem t3_lns : lnsA 0 t3 = [mkL (0, [59, 32, 120]), mkL (1, [104, 97, 108, 116]), mkL (2, [119, 111, 114, 100, 32, 48, 48, 48, 48, 48, 48, 48, 55])] := by
  unfold lnsA
  rw [lnsN_yes (by decide), show post 10 t3 = [104, 97, 108, 116, 10, 119, 111, 114, 100, 32, 48, 48, 48, 48, 48, 48, 48, 55] by decide, lnsN_yes (by decide),
    show post 10 [104, 97, 108, 116, 10, 119, 111, 114, 100, 32, 48, 48, 48, 48, 48, 48, 48, 55] = [119, 111, 114, 100, 32, 48, 48, 48, 48, 48, 48, 48, 55] by decide, lnsN_no (by decide),
    show Lib.trimB (pre 10 t3) 32 = [59, 32, 120] by decide, show Lib.trimB (pre 10 [104, 97, 108, 116, 10, 119, 111, 114, 100, 32, 48, 48, 48, 48, 48, 48, 48, 55]) 32 = [104, 97, 108, 116] by decide,
    show Lib.trimB [119, 111, 114, 100, 32, 48, 48, 48, 48, 48, 48, 48, 55] 32 = [119, 111, 114, 100, 32, 48, 48, 48, 48, 48, 48, 48, 55] by decide]
  rfl
theorem lw_halt : lw [104, 97, 108, 116] = some 0 := by
  have h : pC [104, 97, 108, 116] = some (0, 0, 0, 0, 0) := pC_iff.2 ⟨by unfold iOk InsOk; simp, by unfold prI pr; decide⟩
  unfold lw
  rw [if_neg (by decide), h]
  rfl
theorem lw_seven : lw [119, 111, 114, 100, 32, 48, 48, 48, 48, 48, 48, 48, 55] = some 7 := by
  have h : okW (bs [48, 48, 48, 48, 48, 48, 48, 55]) := ⟨by decide, by unfold okN; decide⟩
  unfold lw
  rw [if_pos (by decide), show Lib.trimPrefix [119, 111, 114, 100, 32, 48, 48, 48, 48, 48, 48, 48, 55] w5 = [48, 48, 48, 48, 48, 48, 48, 55] by decide]
  unfold hexW
  rw [if_pos h]
  decide
theorem t3_fine : ∀ y ∈ lnsA 0 t3, Fine y := by
  rw [t3_lns]
  intro y hy
  simp only [List.mem_cons, List.not_mem_nil, or_false] at hy
  rcases hy with rfl | rfl | rfl
  · exact .inl (by decide)
  · exact .inr ⟨0, lw_halt⟩
  · exact .inr ⟨7, lw_seven⟩
theorem t3_wds : wdsOf (lnsA 0 t3) = [0, 7] := by
  rw [t3_lns]
  unfold wdsOf
  simp only [List.flatMap_cons, List.flatMap_nil]
  rw [show (mkL (1, [104, 97, 108, 116])).2.1 = [104, 97, 108, 116] from rfl, show (mkL (2, [119, 111, 114, 100, 32, 48, 48, 48, 48, 48, 48, 48, 55])).2.1 = [119, 111, 114, 100, 32, 48, 48, 48, 48, 48, 48, 48, 55] from rfl,
    show (mkL (0, [59, 32, 120])).2.1 = [59, 32, 120] from rfl, lw_halt, lw_seven, if_pos (by decide), if_neg (by decide), if_neg (by decide)]
  rfl
theorem awake_any (w : World) (T : Tab w) : Calls Tryz.prog 12 #[] w fun e w' => e = .returned (.bool true) ∧ Below w.heap.size w w' := by
  have HT := Lib.hid T
  have C1 := print_yes 12 1 2 0 (-4) t1_ok
  rw [t1_pr] at C1
  have C2 := parse_any t2 (by decide)
  rw [t2_no] at C2
  have C3 := assemble_good t3 (by decide) t3_fine (by rw [t3_wds]; decide)
  rw [t3_wds] at C3
  change SaysT _ _ (.tuple #[.string ⟨#[108, 100, 32, 114, 49, 32, 114, 50, 32, 45, 52]⟩, .int .i64 0]) at C1
  change SaysT _ #[.string ⟨#[108, 105, 32, 114, 49, 32, 48, 53]⟩] (.tuple #[insV 0 0 0 0 0, .int .i64 60]) at C2
  change ∀ w, Tab w → Calls _ _ #[.string ⟨#[59, 32, 120, 10, 104, 97, 108, 116, 10, 119, 111, 114, 100, 32, 48, 48, 48, 48, 48, 48, 48, 55]⟩] w fun e w' => ∃ v, e = .returned (.tuple #[v, .int .i64 0, .int .i64 0]) ∧ w'.ownsRow w.heap.size 57 1 v 2 [.int .u32 0, .int .u32 7] ∧ Below w.heap.size w w' at C3
  have hb := Below.refl w.heap.size w
  clear T
  go_enter Tryz.func12, Tryz.ntmps12
  go_wp2_with (first | (go_at_call 8; refine (inT C1 w HT _ hb).mono ?_; rintro e w1 ⟨rfl, hb⟩) | (go_at_call 13; refine (inT C2 w HT _ hb).mono ?_; rintro e w2 ⟨rfl, hb⟩; have hT3 := Lib.hid (HT.out.below (ball (o := .cells z5 24) hb))) | (go_at_call 17; refine (C3 _ hT3.out).mono ?_; rintro e w3 ⟨v, rfl, hrow, hb3⟩; obtain ⟨g, off, cap, rfl, -, -, -, hcell⟩ := (Reads.of_owns hrow).cells (by simp); have k1 := hcell 1 (by decide)))
  go_ret
  exact ⟨rfl, btr hb (end_alloc hb3)⟩
end Go.Proofs.YtoohfmkhjhcopaaGreatDoor.AF
