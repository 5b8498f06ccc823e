/-
  Safepoints and gates. Nothing here is a statement of the seed.
-/
import Derived.Test.YtihcellcdkhadaaGreatHartFn
set_option linter.unusedSimpArgs false
set_option linter.unusedVariables false
namespace Go.Proofs.YtihcellcdkhadaaGreat.HF
open Go.RowKit PM PR PF MM MR MF HM HR
set_option maxHeartbeats 2000000
set_option maxRecDepth 10000
theorem pass_any (pc : Int) (R : Nat → Int) (a : Option Addr) (n c : Nat) (why ep home : Int) (xe y : Int) : Says Tryz.prog 82 #[hV pc R a n c why ep home, .int .u64 xe, .int .u8 y] (.tuple #[if 0 < n then hV pc R a n c y ep home else hV home R a n c why xe home, nV (decide (n = 0)) false 0 0]) := by
  intro w
  by_cases hn : 0 < n
  · rw [if_pos hn, decide_eq_false (show ¬ n = 0 by omega)]
    have C := Lib.hid (fun u => stop_any pc R a n c why ep home y u)
    have hn' : (0 : Int) < n := by omega
    go_enter Tryz.func82, Tryz.ntmps82
    go_wp2_with (go_at_call 29; (with_reducible refine (C.out _).mono ?_); rintro e w1 ⟨rfl, hb⟩; have E := Lib.hid (w3_ends hb).1; have B := Lib.hid (w3_ends hb).2; clear hb; obtain ⟨l1, l2, ⟨⟨v0, v1, v2, v3, v4, v5, v6, v7, v8, v9, v10, v11, v12, e0, e1, e2, e3, e4, e5, e6, e7, e8, e9, e10, e11, e12⟩, f0, f1, f2, f3, f4, f5, f6, f7, f8, f9, f10, f11, f12⟩, ⟨⟨z0, z1, z2, z3, g0, g1, g2, g3⟩, i0, i1, i2, i3⟩⟩ := E.out.open_)
    rw [putH_eq, putN_eq]
    refine bodyPost_ret (v := .tuple #[hV pc R a n c y ep home, nV false false 0 0]) (by simp [results, Tryz.results82, go_sem, E.out.cells, up]) rfl ⟨rfl, ends_low B.out (by omega) ..⟩
  · obtain rfl : n = 0 := by omega
    rw [if_neg hn, decide_eq_true rfl]
    go_enter Tryz.func82, Tryz.ntmps82
    go_wp2_with fail
    refine bodyPost_ret (v := .tuple #[hV home R a 0 c why xe home, nV true false 0 0]) (by simp [results, Tryz.results82, go_sem]) rfl ⟨rfl, bl3 ..⟩
theorem enter_any {w : World} {p t g gw : Nat} {M : Mm} (h : Pm w p t g gw M) (pc : Int) (R : Nat → Int) (a : Option Addr) (n c : Nat) (why ep home : Int) (m xe : Int) (hm : 0 ≤ m ∧ m ≤ 63) : Calls Tryz.prog 84 #[hV pc R a n c why ep home, .pointer (some ⟨p, 0, none⟩), .int .u32 m, .int .u64 xe] w fun e w' =>
    e = .returned (.tuple (if gate M (m / 8) = 0 then #[if 0 < n then hV pc R a n c 2 ep home else hV home R a n c why xe home, nV (decide (n = 0)) false 0 0] else #[hV ((gate M (m / 8) + m % 8) % 4294967296) R a n c why ep home, nV false false 0 0])) ∧ Below w.heap.size w w' := by
  have CG := Lib.hid (fun u (hb : Below w.heap.size w u) => gate_any (h.belowS hb) (m / 8))
  have hb3 := Lib.hid (w3_facts w (hCs pc R a n c why ep home)).1
  clear h
  generalize gate M (m / 8) = G at *
  obtain ⟨hm0, hm1⟩ := hm
  by_cases hG : G = 0
  · subst hG
    rw [if_pos rfl]
    have C := Lib.hid (fun u => pass_any pc R a n c why ep home xe 2 u)
    by_cases hn : 0 < n
    · rw [if_pos hn] at C ⊢
      generalize decide (n = 0) = sf at *
      go_enter Tryz.func84, Tryz.ntmps84
      go_wp2_with (first | (go_at_call 109; (with_reducible refine (CG.out _ hb3.out).mono ?_); rintro e w1 ⟨rfl, rfl⟩) | (go_at_call 82; (with_reducible refine (C.out _).mono ?_); rintro e w1 ⟨rfl, hb⟩; have E := Lib.hid (w3_ends hb).1; have B := Lib.hid (w3_ends hb).2; clear hb; obtain ⟨l1, l2, ⟨⟨v0, v1, v2, v3, v4, v5, v6, v7, v8, v9, v10, v11, v12, e0, e1, e2, e3, e4, e5, e6, e7, e8, e9, e10, e11, e12⟩, f0, f1, f2, f3, f4, f5, f6, f7, f8, f9, f10, f11, f12⟩, ⟨⟨z0, z1, z2, z3, g0, g1, g2, g3⟩, i0, i1, i2, i3⟩⟩ := E.out.open_))
      rw [putH_eq, putN_eq]
      refine bodyPost_ret (v := .tuple #[hV pc R a n c 2 ep home, nV sf false 0 0]) (by simp [results, Tryz.results84, go_sem, E.out.cells, up]) rfl ⟨rfl, ends_low B.out (by omega) ..⟩
    · rw [if_neg hn] at C ⊢
      generalize decide (n = 0) = sf at *
      go_enter Tryz.func84, Tryz.ntmps84
      go_wp2_with (first | (go_at_call 109; (with_reducible refine (CG.out _ hb3.out).mono ?_); rintro e w1 ⟨rfl, rfl⟩) | (go_at_call 82; (with_reducible refine (C.out _).mono ?_); rintro e w1 ⟨rfl, hb⟩; have E := Lib.hid (w3_ends hb).1; have B := Lib.hid (w3_ends hb).2; clear hb; obtain ⟨l1, l2, ⟨⟨v0, v1, v2, v3, v4, v5, v6, v7, v8, v9, v10, v11, v12, e0, e1, e2, e3, e4, e5, e6, e7, e8, e9, e10, e11, e12⟩, f0, f1, f2, f3, f4, f5, f6, f7, f8, f9, f10, f11, f12⟩, ⟨⟨z0, z1, z2, z3, g0, g1, g2, g3⟩, i0, i1, i2, i3⟩⟩ := E.out.open_))
      rw [putH_eq, putN_eq]
      refine bodyPost_ret (v := .tuple #[hV home R a n c why xe home, nV sf false 0 0]) (by simp [results, Tryz.results84, go_sem, E.out.cells, up]) rfl ⟨rfl, ends_low B.out (by omega) ..⟩
  · rw [if_neg hG]
    have hG' : (G == 0) = false := by simpa using hG
    have C := Lib.hid (fun u => turn_any pc R a n c why ep home ((G + m % 8) % 4294967296) u)
    clear hG
    go_enter Tryz.func84, Tryz.ntmps84
    go_wp2_with (first | (go_at_call 109; (with_reducible refine (CG.out _ hb3.out).mono ?_); rintro e w1 ⟨rfl, rfl⟩) | (go_at_call 83; (with_reducible refine (C.out _).mono ?_); rintro e w1 ⟨rfl, hb⟩; have E := Lib.hid (w3_ends hb).1; have B := Lib.hid (w3_ends hb).2; clear hb; obtain ⟨l1, l2, ⟨⟨v0, v1, v2, v3, v4, v5, v6, v7, v8, v9, v10, v11, v12, e0, e1, e2, e3, e4, e5, e6, e7, e8, e9, e10, e11, e12⟩, f0, f1, f2, f3, f4, f5, f6, f7, f8, f9, f10, f11, f12⟩, ⟨⟨z0, z1, z2, z3, g0, g1, g2, g3⟩, i0, i1, i2, i3⟩⟩ := E.out.open_))
    rw [putH_eq, putN_eq]
    refine bodyPost_ret (v := .tuple #[hV ((G + m % 8) % 4294967296) R a n c why ep home, nV false false 0 0]) (by simp [results, Tryz.results84, go_sem, E.out.cells, up]) rfl ⟨rfl, ends_low B.out (by omega) ..⟩
end Go.Proofs.YtihcellcdkhadaaGreat.HF
