/-
  What is done with an owner's page: four closures. Nothing here is a statement of the seed.
-/
import Derived.Test.YtkmjacpcpchjoaaPageIdx
set_option linter.unusedSimpArgs false
set_option linter.unusedVariables false
namespace Go.Proofs.Ytkmjacpcpchjoaa.PF
open Go.RowKit PM PR

theorem two_new (w : World) (o o' : Obj) : Below w.heap.size w ((w.alloc o).alloc o') := (below_new w o).alloc (by simp) o'
theorem asItIs_any (p : Pg) : Says Try.prog 64 #[pV p] (pV p) := by
  intro w
  obtain ⟨st, ex, wr, ow, ep⟩ := p
  show Calls _ _ #[pgV st ex wr ow ep] _ _
  go_enter Try.func64, Try.ntmps64
  go_wp2_with fail
  exact bodyPost_ret (v := pgV st ex wr ow ep) (by simp [results, Try.results64, go_sem]) rfl ⟨rfl, two_new _ _ _⟩
theorem release1_any (p : Pg) : Says Try.prog 88 #[pV p] (pV zero) := by
  intro w
  obtain ⟨st, ex, wr, ow, ep⟩ := p
  show Calls _ _ #[pgV st ex wr ow ep] _ _
  go_enter Try.func88, Try.ntmps88
  go_wp2_with fail
  exact bodyPost_ret (v := pgV 0 false false 0 0) (by simp [results, Try.results88, go_sem]) rfl ⟨rfl, two_new _ _ _⟩
theorem retire1_any (p : Pg) (ee : Int) (k E : Nat) (w : World) (hE : Whole w E 39 #[.int .u64 ee]) :
    Calls Try.prog 67 #[pV p, .pointer (some ⟨E, 0, none⟩)] w fun e w' => e = .returned (pV (retF ee k p)) ∧ Below w.heap.size w w' := by
  have hc := hE.cell 0
  simp only [List.getElem?_toArray, List.getElem?_cons_zero] at hc
  have hlt := hE.lt
  have hne : E ≠ w.heap.size := by omega
  have hne2 : E ≠ w.heap.size + 1 := by omega
  have hlt2 : E < w.heap.size + 1 := by omega
  have hlt3 : E < w.heap.size + 1 + 1 := by omega
  clear hE
  obtain ⟨st, ex, wr, ow, ep⟩ := p
  show Calls _ _ #[pgV st ex wr ow ep, _] _ _
  go_enter Try.func67, Try.ntmps67
  go_wp2_with fail
  exact bodyPost_ret (v := pgV 3 ex wr ow ee) (by simp [results, Try.results67, go_sem]) rfl ⟨rfl, two_new _ _ _⟩
theorem publish1_any (p : Pg) (code : Int) (k D E : Nat) (w : World) (hk : k ≤ 256) (hD : Whole w D 3 #[.int .i64 (k : Int)]) (hE : Whole w E 3 #[.int .i64 code]) (hDE : D ≠ E) :
    Calls Try.prog 65 #[pV p, .pointer (some ⟨D, 0, none⟩), .pointer (some ⟨E, 0, none⟩)] w fun e w' => e = .returned (pV (pubF code k p)) ∧ Fr (· = D) w w' ∧ Whole w' D 3 #[.int .i64 ((k + 1 : Nat) : Int)] := by
  have hc := hD.cell 0
  have hc2 := hE.cell 0
  simp only [List.getElem?_toArray, List.getElem?_cons_zero] at hc hc2
  have hf := hD.frozen 0
  have hlt := hD.lt
  have hne : D ≠ w.heap.size := by omega
  have hne2 : D ≠ w.heap.size + 1 := by omega
  have hlt2 : D < w.heap.size + 1 := by omega
  have hlt3 : D < w.heap.size + 1 + 1 := by omega
  have klt := hE.lt
  have kne : E ≠ w.heap.size := by omega
  have kne2 : E ≠ w.heap.size + 1 := by omega
  have klt2 : E < w.heap.size + 1 := by omega
  have klt3 : E < w.heap.size + 1 + 1 := by omega
  have HD := Lib.hid hD
  clear hD hE
  obtain ⟨st, ex, wr, ow, ep⟩ := p
  show Calls _ _ #[pgV st ex wr ow ep, _, _] _ fun e w' => e = .returned (pgV 2 (decide ((k : Int) < code)) (!decide ((k : Int) < code)) ow ep) ∧ _
  generalize hz : (k : Int) = x at *
  have HZ := Lib.hid hz
  have hx0 : 0 ≤ x := by omega
  have hx1 : x ≤ 256 := by omega
  clear hz hk
  go_enter Try.func65, Try.ntmps65
  go_wp2_with fail
  refine bodyPost_ret (v := pgV 2 (decide (x < code)) (!decide (x < code)) ow ep) (by simp [results, Try.results65, go_sem]) rfl ⟨rfl, (((Fr.refl (fun i => i = D) w).set (p := ⟨D, 0, none⟩) (Or.inl rfl) _).alloc _).alloc _, ?_⟩
  rw [show ((k + 1 : Nat) : Int) = x + 1 by have := HZ.out; omega]
  exact ((HD.out.set_ 0 _).alloc _).alloc _
end Go.Proofs.Ytkmjacpcpchjoaa.PF
