/-
  Results told by boxes of a whole table and of a bind. Nothing here is a statement of the seed.
-/
import Derived.Test.YtigalcmhongleaaGtRef2
set_option linter.unusedSimpArgs false
set_option linter.unusedVariables false
namespace Go.Proofs.Ytigalcmhongleaa.GF
open Go.RowKit WM NR OM OR GA
set_option maxHeartbeats 400000
section
variable {u : World} {p q : Nat} {t t' : TypeId} {f : Tb} {b : Bd}
theorem asA (a : Addr) (P : Program) (u : World) : (asAddr (.pointer (some a))).run P u = .ok a u := rfl
theorem res_B (h : Whole u q t (bdC b)) : (loadVar 29 ⟨q, 0, none⟩).run Try.prog u = .ok (bdV b) u :=
  run_loadVar_mid u q 0 _ (bdC b).toList _ (fun j v hv => by rw [Nat.zero_add, h.cell, ← hv, Array.getElem?_toList]) Try.underlying29 rfl (by kernel_rfl)
theorem res4 {fn : Func} {tm : Array Value} {g e : Int} (hr : fn.results = #[.cell 4 32, .tmp 5, .cell 6 29, .tmp 7]) (h4 : tm.getD 4 undef = .pointer (some ⟨p, 0, none⟩)) (h5 : tm.getD 5 undef = .int .i64 g) (h6 : tm.getD 6 undef = .pointer (some ⟨q, 0, none⟩)) (h7 : tm.getD 7 undef = .int .i64 e)
    (hT : Whole u p t (tC f)) (hB : Whole u q t' (bdC b)) : (results fn tm).run Try.prog u = .ok (.tuple #[tV f, .int .i64 g, bdV b, .int .i64 e]) u := by
  have r1 := res_T hT
  have r2 := res_B hB
  unfold results
  rw [hr]
  simp only [Array.mapM_eq_mapM_toList, List.mapM_cons, List.mapM_nil, h4, h5, h6, h7, Sem.run_bind, Sem.run_pure, Result.andThen_ok, asA, r1, r2, map_eq_pure_bind, bind_assoc, pure_bind]
  rfl
theorem res3 {fn : Func} {tm : Array Value} {g e : Int} (hr : fn.results = #[.cell 4 32, .tmp 5, .tmp 6]) (h4 : tm.getD 4 undef = .pointer (some ⟨p, 0, none⟩)) (h5 : tm.getD 5 undef = .int .i64 g) (h6 : tm.getD 6 undef = .int .i64 e)
    (hT : Whole u p t (tC f)) : (results fn tm).run Try.prog u = .ok (.tuple #[tV f, .int .i64 g, .int .i64 e]) u := by
  have r1 := res_T hT
  unfold results
  rw [hr]
  simp only [Array.mapM_eq_mapM_toList, List.mapM_cons, List.mapM_nil, h4, h5, h6, Sem.run_bind, Sem.run_pure, Result.andThen_ok, asA, r1, map_eq_pure_bind, bind_assoc, pure_bind]
  rfl
end
end Go.Proofs.Ytigalcmhongleaa.GF
