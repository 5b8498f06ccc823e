/-
  The program's Apply and Undo, call by call. Nothing here is a statement of the seed.
-/
import Derived.Test.YtdnjilnnlgphhaaIsaDec
import Derived.Test.YtdnjilnnlgphhaaRelFn
import Derived.Deep.RegionHeld3
set_option linter.unusedSimpArgs false
set_option linter.unusedVariables false
namespace Go.Proofs.Ytdnjilnnlgphhaa.RF
open Go.RowKit WM IM WF IF RM

theorem below_drew_iff {B : Nat} {a w : World} : Below B a w.drew ↔ Below B a w := ⟨fun h => ⟨h.os, h.tape, h.output, h.size, h.block⟩, fun h => h.drew⟩
/-- an instruction's cells stand there, and all that was there -/
def Stood (B : Nat) (w : World) (o d a b m : Int) (u : World) : Prop := u.cell? ⟨B, 0, none⟩ = some (.int .u8 o) ∧ u.cell? ⟨B, 1, none⟩ = some (.int .u8 d) ∧ u.cell? ⟨B, 2, none⟩ = some (.int .u8 a) ∧ u.cell? ⟨B, 3, none⟩ = some (.int .u8 b) ∧
  u.cell? ⟨B, 4, none⟩ = some (.int .i32 m) ∧ u.frozen? ⟨B, 4, none⟩ = false ∧ B < u.heap.size ∧ Below w.heap.size w u
theorem stood_in {f : FuncId} {args : Array Value} {v : Value} (C : Says Try.prog f args v) (B : Nat) (w : World) (o d a b m : Int) (u : World) (h : Stood B w o d a b m u) :
    Calls Try.prog f args u fun e w' => e = .returned v ∧ Stood B w o d a b m w' :=
  (C u).mono fun e w' ⟨he, hb⟩ => ⟨he, by
    obtain ⟨h0, h1, h2, h3, h4, hz, h5, h6⟩ := h
    have k : ∀ j : Nat, w'.cell? ⟨B, j, none⟩ = u.cell? ⟨B, j, none⟩ := fun j => hb.cell (p := ⟨B, j, none⟩) h5
    exact ⟨(k 0).trans h0, (k 1).trans h1, (k 2).trans h2, (k 3).trans h3, (k 4).trans h4, (hb.frozen (p := ⟨B, 4, none⟩) h5).trans hz, Nat.lt_of_lt_of_le h5 hb.size, h6.trans (hb.mono h6.size)⟩⟩
/-- two instructions held against one another -/
theorem neq_ins (o d a b m o' d' a' b' m' : Int) (w : World) : (binOp .neq 47 (insV o d a b m) (insV o' d' a' b' m')).run Try.prog w = .ok (.bool (!decide (o = o' ∧ d = d' ∧ a = a' ∧ b = b' ∧ m = m'))) w := by
  rw [run_neq_struct, show (10000:Nat) = 9999+1 from rfl, run_equalIn_agg w 9999 _ _ _ (by kernel_rfl) (by kernel_rfl)]
  rw [show (Try.prog.fieldsOf 47) = _ from by unfold Program.fieldsOf; rw [Try.underlying47]]
  simp [Op.eqFields, go_sem, Try.underlying45, Try.underlying5, Try.underlying21]
  by_cases h1 : o = o' <;> by_cases h2 : d = d' <;> by_cases h3 : a = a' <;> by_cases h4 : b = b' <;> by_cases h5 : m = m' <;> simp [h1, h2, h3, h4, h5]
theorem apply_out (x k v : Int) (hk : 7 < k ∧ k ≤ 255) : Says Try.prog 12 #[.int .u32 x, .int .u8 k, .int .u32 v] (.tuple #[.int .u32 0, .int .i64 2]) := by
  intro w
  obtain ⟨h1, h2⟩ := hk
  go_enter Try.func12, Try.ntmps12
  go_wp2
  exact bodyPost_ret (v := .tuple #[.int .u32 0, .int .i64 2]) (by simp [results, Try.results12, go_sem]) rfl ⟨rfl, Below.refl _ _⟩
theorem apply_whole (x k v : Int) (hk : 0 ≤ k ∧ k ≤ 7) (hw : whole k = true) : Says Try.prog 12 #[.int .u32 x, .int .u8 k, .int .u32 v] (.tuple #[.int .u32 v, .int .i64 0]) := by
  intro w
  have C := Lib.hid (fun w => isWhole_any k w ⟨hk.1, by omega⟩)
  rw [hw] at C
  obtain ⟨h1, h2⟩ := hk
  clear hw
  go_enter Try.func12, Try.ntmps12
  go_wp2_with (first | (go_at_call 22; refine (C.out _).mono ?_; rintro e w' ⟨rfl, rfl⟩))
  exact bodyPost_ret (v := .tuple #[.int .u32 v, .int .i64 0]) (by simp [results, Try.results12, go_sem]) rfl ⟨rfl, Below.refl _ _⟩
/-- Apply, by what its calls tell -/
theorem apply_code (x k v o d a b m K o' d' E r : Int) (hk : 0 ≤ k ∧ k ≤ 7) (CW : ∀ w, Calls Try.prog 22 #[.int .u8 k] w fun e w' => e = .returned (.bool false) ∧ w = w')
    (CD : Says Try.prog 18 #[.int .u32 x] (.tuple #[insV o d a b m, .int .i64 K]))
    (CB : Says Try.prog 23 #[.int .u8 k, .int .u8 d] (insV o' d' 0 0 0))
    (CR : ∀ w, Calls Try.prog 14 #[.int .u8 k] w fun e w' => e = .returned (.int .u32 1048575) ∧ w = w')
    (CE : r = 0 → Says Try.prog 20 #[insV o d a b v] (.tuple #[.int .u32 E, .int .i64 0])) (hv : 0 ≤ v ∧ v ≤ 4294967295)
    (h : (K != 0) = true ∧ r = 10 ∨ K = 0 ∧ ¬ (o = o' ∧ d = d' ∧ a = 0 ∧ b = 0 ∧ m = 0) ∧ r = 10 ∨ K = 0 ∧ (o = o' ∧ d = d' ∧ a = 0 ∧ b = 0 ∧ m = 0) ∧ 1048575 < v ∧ r = 30 ∨ K = 0 ∧ (o = o' ∧ d = d' ∧ a = 0 ∧ b = 0 ∧ m = 0) ∧ v ≤ 1048575 ∧ r = 0) :
    Says Try.prog 12 #[.int .u32 x, .int .u8 k, .int .u32 v] (.tuple #[.int .u32 (if r = 0 then E else 0), .int .i64 r]) := by
  intro w
  obtain ⟨h1, h2⟩ := hk
  obtain ⟨hv1, hv2⟩ := hv
  have TW := Lib.hid CW
  have TD := Lib.hid CD
  have TB := Lib.hid CB
  have TR := Lib.hid CR
  clear CW CD CB CR
  rcases h with ⟨hK, rfl⟩ | ⟨rfl, hn, rfl⟩ | ⟨rfl, ⟨rfl, rfl, rfl, rfl, rfl⟩, hf, rfl⟩ | ⟨rfl, ⟨rfl, rfl, rfl, rfl, rfl⟩, hf, rfl⟩
  · clear CE
    go_enter Try.func12, Try.ntmps12
    go_wp2_with (first | (go_at_call 22; refine (TW.out _).mono ?_; rintro e w' ⟨rfl, rfl⟩) | (go_at_call 18; refine (TD.out.at _).mono ?_; rintro e w1 ⟨rfl, hb⟩; obtain ⟨hc, hf⟩ := bcell hb))
    exact bodyPost_ret (v := .tuple #[.int .u32 0, .int .i64 10]) (by simp [results, Try.results12, go_sem]) rfl ⟨rfl, hb.alloc hb.size _⟩
  · clear CE
    go_enter Try.func12, Try.ntmps12
    go_wp2_with (first | (go_at_call 22; refine (TW.out _).mono ?_; rintro e w' ⟨rfl, rfl⟩) | (go_at_call 18; refine (TD.out.at _).mono ?_; rintro e w1 ⟨rfl, hb⟩; obtain ⟨hc, hf⟩ := bcell hb))
    have eN : ∀ u, (binOp .neq 47 (insV o d a b m) (insV o' d' 0 0 0)).run Try.prog u = .ok (.bool true) u := fun u => (neq_ins o d a b m o' d' 0 0 0 u).trans (by rw [decide_eq_false hn]; rfl)
    have hba := fun ob => hb.alloc hb.size ob
    go_region_held3 (fun u => u.cell? ⟨w1.heap.size, 0, none⟩ = some (.int .u8 o) ∧ u.cell? ⟨w1.heap.size, 1, none⟩ = some (.int .u8 d) ∧ u.cell? ⟨w1.heap.size, 2, none⟩ = some (.int .u8 a) ∧ u.cell? ⟨w1.heap.size, 3, none⟩ = some (.int .u8 b) ∧ u.cell? ⟨w1.heap.size, 4, none⟩ = some (.int .i32 m) ∧ u.frozen? ⟨w1.heap.size, 4, none⟩ = false ∧ w1.heap.size < u.heap.size ∧ Below w.heap.size w u)
      (first | (simp [*, World.cell?_alloc_some, below_drew_iff, below_new]; done) | (simp [*, World.cell?_alloc_some, below_drew_iff, below_new]; omega))
      (first | (go_at_call 23; refine (stood_in TB.out w1.heap.size w o d a b m _ (by simp [Stood, *])).mono ?_; rintro e w' ⟨rfl, g0, g1, g2, g3, g4, gz, g5, g6⟩))
    go_wp2
    exact bodyPost_ret (v := .tuple #[.int .u32 0, .int .i64 10]) (by simp [results, Try.results12, go_sem, *]) rfl ⟨rfl, g6⟩
  · clear CE
    have eN : ∀ u, (binOp .neq 47 (insV o d 0 0 0) (insV o d 0 0 0)).run Try.prog u = .ok (.bool false) u := fun u => (neq_ins o d 0 0 0 o d 0 0 0 u).trans (by simp)
    go_enter Try.func12, Try.ntmps12
    go_wp2_with (first | (go_at_call 22; refine (TW.out _).mono ?_; rintro e w' ⟨rfl, rfl⟩) | (go_at_call 18; refine (TD.out.at _).mono ?_; rintro e w1 ⟨rfl, hb⟩; obtain ⟨hc, hg⟩ := bcell hb))
    have hba := fun ob => hb.alloc hb.size ob
    go_region_held3 (fun u => u.cell? ⟨w1.heap.size, 0, none⟩ = some (.int .u8 o) ∧ u.cell? ⟨w1.heap.size, 1, none⟩ = some (.int .u8 d) ∧ u.cell? ⟨w1.heap.size, 2, none⟩ = some (.int .u8 0) ∧ u.cell? ⟨w1.heap.size, 3, none⟩ = some (.int .u8 0) ∧ u.cell? ⟨w1.heap.size, 4, none⟩ = some (.int .i32 0) ∧ u.frozen? ⟨w1.heap.size, 4, none⟩ = false ∧ w1.heap.size < u.heap.size ∧ Below w.heap.size w u)
      (first | (simp [*, World.cell?_alloc_some, below_drew_iff, below_new]; done) | (simp [*, World.cell?_alloc_some, below_drew_iff, below_new]; omega))
      (first | (go_at_call 23; refine (stood_in TB.out w1.heap.size w o d 0 0 0 _ (by simp [Stood, *])).mono ?_; rintro e w' ⟨rfl, g0, g1, g2, g3, g4, gz, g5, g6⟩))
    go_wp2_with (first | (go_at_call 14; refine (TR.out _).mono ?_; rintro e w5 ⟨rfl, rfl⟩))
    exact bodyPost_ret (v := .tuple #[.int .u32 0, .int .i64 30]) (by simp [results, Try.results12, go_sem, *]) rfl ⟨rfl, g6⟩
  · have TE := Lib.hid (CE rfl)
    clear CE
    have eN : ∀ u, (binOp .neq 47 (insV o d 0 0 0) (insV o d 0 0 0)).run Try.prog u = .ok (.bool false) u := fun u => (neq_ins o d 0 0 0 o d 0 0 0 u).trans (by simp)
    go_enter Try.func12, Try.ntmps12
    go_wp2_with (first | (go_at_call 22; refine (TW.out _).mono ?_; rintro e w' ⟨rfl, rfl⟩) | (go_at_call 18; refine (TD.out.at _).mono ?_; rintro e w1 ⟨rfl, hb⟩; obtain ⟨hc, hg⟩ := bcell hb))
    have hba := fun ob => hb.alloc hb.size ob
    go_region_held3 (fun u => u.cell? ⟨w1.heap.size, 0, none⟩ = some (.int .u8 o) ∧ u.cell? ⟨w1.heap.size, 1, none⟩ = some (.int .u8 d) ∧ u.cell? ⟨w1.heap.size, 2, none⟩ = some (.int .u8 0) ∧ u.cell? ⟨w1.heap.size, 3, none⟩ = some (.int .u8 0) ∧ u.cell? ⟨w1.heap.size, 4, none⟩ = some (.int .i32 0) ∧ u.frozen? ⟨w1.heap.size, 4, none⟩ = false ∧ w1.heap.size < u.heap.size ∧ Below w.heap.size w u)
      (first | (simp [*, World.cell?_alloc_some, below_drew_iff, below_new]; done) | (simp [*, World.cell?_alloc_some, below_drew_iff, below_new]; omega))
      (first | (go_at_call 23; refine (stood_in TB.out w1.heap.size w o d 0 0 0 _ (by simp [Stood, *])).mono ?_; rintro e w' ⟨rfl, g0, g1, g2, g3, g4, gz, g5, g6⟩))
    go_wp2_with (first | (go_at_call 14; refine (TR.out _).mono ?_; rintro e w5 ⟨rfl, rfl⟩) | (go_at_call 20; refine (TE.out.at _).mono ?_; rintro e w6 ⟨rfl, hb6⟩; obtain ⟨hc6, hf6⟩ := bcell hb6))
    exact bodyPost_ret (v := .tuple #[.int .u32 E, .int .i64 0]) (by simp [results, Try.results12, go_sem, *]) rfl ⟨rfl, (g6.setCell hb.size _).trans (hb6.mono (by have := g6.size; simpa using this))⟩
end Go.Proofs.Ytdnjilnnlgphhaa.RF
