/-
  The memory of eight pages in which harts are tried. Plain mathematics; nothing here is a statement of the seed.
-/
import Derived.Test.YtihcellcdkhadaaGreatHartMath2
set_option linter.unusedSimpArgs false
set_option linter.unusedVariables false
namespace Go.Proofs.YtihcellcdkhadaaGreat.HM
open Go.RowKit PM MM IM

def bL1 : List Pg := stageL (zeros 8) 0 6 1
def bL2 : List Pg := pubL bL1 1 4
def bL3 : List Pg := retL bL2 1 2
theorem bL_s : stageE (zeros 8) 0 6 1 = 0 := rfl
theorem bL_p : pubE bL1 1 4 = 0 := rfl
theorem bL_r : retE bL2 1 = 0 := rfl
theorem bL1_len : bL1.length = 8 := rfl
theorem bL2_len : bL2.length = 8 := rfl
theorem bL3_len : bL3.length = 8 := rfl
theorem bL1_fine : FineL bL1 := FineL.stage (fine_zeros 8) _ _ _
theorem bL2_fine : FineL bL2 := FineL.pub bL1_fine _ _
theorem bL3_fine : FineL bL3 := FineL.ret bL2_fine _ _
/-- words laid from k on -/
def lay (ws : List Int) : Nat → List Int → List Int
  | _, [] => ws
  | k, x :: t => lay (ws.set k x) (k + 1) t
theorem lay_len : ∀ (l ws : List Int) (k : Nat), (lay ws k l).length = ws.length
  | [], _, _ => rfl
  | x :: t, ws, k => by simp [lay, lay_len t]
theorem lay_ok : ∀ (l ws : List Int) (k : Nat), (∀ x ∈ l, B32 x) → (∀ x ∈ ws, B32 x) → ∀ x ∈ lay ws k l, B32 x
  | [], _, _, _, h => h
  | y :: t, ws, k, hl, h => lay_ok t (ws.set k y) (k + 1) (fun x hx => hl x (List.mem_cons_of_mem _ hx)) (fun x hx => by
    rcases mem_set hx with rfl | h'
    · exact hl _ (List.mem_cons_self ..)
    · exact h x h')
theorem lay_step (ws l : List Int) (k o : Nat) (h : k < l.length) : lay ws (o + k) (l.drop k) = lay (ws.set (o + k) (l.getD k 0)) (o + (k + 1)) (l.drop (k + 1)) := by
  rw [List.drop_eq_getElem_cons h]
  simp [lay, List.getD_eq_getElem?_getD, List.getElem?_eq_getElem h, Nat.add_assoc]
theorem lay_end (ws l : List Int) (k o : Nat) (h : l.length ≤ k) : lay ws (o + k) (l.drop k) = ws := by
  rw [List.drop_eq_nil_of_le h]
  rfl
def g0 : Nat → Int := fun _ => 0
def landG (gate : Int) : Nat → Int := setG (setG g0 0 80) 1 gate
def landW (code data : List Int) : List Int := lay (lay (List.replicate 128 0) 0 (code.take 64)) 64 (data.take 32)
def landM (code data : List Int) (gate : Int) (ret : Bool) : Mm := ⟨landG gate, if ret then bL3 else bL2, landW code data⟩
theorem landW_len (code data : List Int) : (landW code data).length = 128 := by simp [landW, lay_len]
theorem newM8 : newM 8 = ⟨g0, zeros 8, List.replicate 128 0⟩ := rfl
theorem m1_ok {ws : List Int} (h : ws.length = 128) (G : Nat → Int) : MOk ⟨G, bL1, ws⟩ := ⟨by show bL1.length ≤ 256; rw [bL1_len]; omega, by show ws.length = bL1.length * 16; rw [h, bL1_len], bL1_fine⟩
theorem land_ok (code data : List Int) (gate : Int) (ret : Bool) : MOk (landM code data gate ret) := by
  have h := landW_len code data
  cases ret
  · exact ⟨by show bL2.length ≤ 256; rw [bL2_len]; omega, by show (landW code data).length = bL2.length * 16; rw [h, bL2_len], bL2_fine⟩
  · exact ⟨by show bL3.length ≤ 256; rw [bL3_len]; omega, by show (landW code data).length = bL3.length * 16; rw [h, bL3_len], bL3_fine⟩
theorem land_wok {code data : List Int} {gate : Int} (hc : ∀ x ∈ code, B32 x) (hd : ∀ x ∈ data, B32 x) (hg : B32 gate) (ret : Bool) : WOk (landM code data gate ret) := by
  refine ⟨fun k => ?_, ?_⟩
  · show B32 (landG gate k)
    unfold landG setG
    split
    · exact hg
    · split
      · unfold B32; omega
      · exact b32_zero
  · show ∀ x ∈ landW code data, B32 x
    unfold landW
    refine lay_ok _ _ _ (fun x hx => hd x (List.mem_of_mem_take hx)) (lay_ok _ _ _ (fun x hx => hc x (List.mem_of_mem_take hx)) fun x hx => ?_)
    rw [List.mem_replicate] at hx
    rw [hx.2]
    exact b32_zero
theorem staged_at {k : Nat} (hk : k < 96) : pageOf (80 + (k : Int)) = ((k / 16 : Nat) : Int) ∧ bL1.getD (k / 16) zero = stg 1 := by
  refine ⟨by unfold pageOf; rw [if_neg (by omega)]; omega, ?_⟩
  rcases (show k / 16 = 0 ∨ k / 16 = 1 ∨ k / 16 = 2 ∨ k / 16 = 3 ∨ k / 16 = 4 ∨ k / 16 = 5 by omega) with h | h | h | h | h | h <;> rw [h] <;> rfl
theorem put_land {ws : List Int} (hl : ws.length = 128) (G : Nat → Int) {k : Nat} (hk : k < 96) (x : Int) : putE ⟨G, bL1, ws⟩ (80 + (k : Int)) = 0 ∧ putM ⟨G, bL1, ws⟩ (80 + (k : Int)) x = ⟨G, bL1, ws.set k x⟩ := by
  obtain ⟨h1, h2⟩ := staged_at hk
  have ht : thereB ⟨G, bL1, ws⟩ (80 + (k : Int)) = true := by
    unfold thereB
    rw [decide_eq_true_eq]
    show 80 ≤ 80 + (k : Int) ∧ 80 + (k : Int) < 80 + (ws.length : Int)
    omega
  have hp : (pageAt ⟨G, bL1, ws⟩ (80 + (k : Int))).st = 1 := by
    unfold pageAt gPm
    rw [h1, if_neg (by omega), Int.toNat_natCast]
    show (bL1.getD (k / 16) zero).st = 1
    rw [h2]
    rfl
  have he : putE ⟨G, bL1, ws⟩ (80 + (k : Int)) = 0 := by
    unfold putE
    rw [ht, if_pos rfl, if_pos hp]
  refine ⟨he, ?_⟩
  unfold putM
  rw [he, if_pos rfl]
  unfold setW
  show Mm.mk G bL1 (ws.set (80 + (k : Int) - 80).toNat x) = _
  rw [show (80 + (k : Int) - 80).toNat = k by omega]
theorem set_0 (G : Nat → Int) (l : List Pg) (ws : List Int) (b : Int) : setE 0 = 0 ∧ setM ⟨G, l, ws⟩ 0 b = ⟨setG G 0 b, l, ws⟩ := ⟨rfl, rfl⟩
theorem set_1 (G : Nat → Int) (l : List Pg) (ws : List Int) (b : Int) : setE 1 = 0 ∧ setM ⟨G, l, ws⟩ 1 b = ⟨setG G 1 b, l, ws⟩ := ⟨rfl, rfl⟩
end Go.Proofs.YtihcellcdkhadaaGreat.HM
