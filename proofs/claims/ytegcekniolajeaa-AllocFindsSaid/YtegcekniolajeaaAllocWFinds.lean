/-
  The walk of AllocFinds. Nothing here is a statement of the seed.
-/
import Derived.Test.YtegcekniolajeaaAllocAwake
set_option linter.unusedSimpArgs false
set_option linter.unusedVariables false
namespace Go.Proofs.Ytegcekniolajeaa.WK
open Go.RowKit AL NR AF

theorem infoB : (Try.prog.info? 4).map (fun i => (i.zero, i.size, i.bytes)) = some (some (.bool false), 1, 1) := by kernel_rfl
theorem next {w w' : World} {v : Value} {xs : List Value} (h : Reads (· < w.heap.size) w v xs) (hb : Below w.heap.size w w') : Reads (· < w'.heap.size) w' v xs :=
  (h.below hb).mono (fun g hg => Nat.lt_of_lt_of_le hg hb.size)
theorem own_empty (w : World) (t : TypeId) : (w.alloc (.cells #[] t)).ownsRow w.heap.size t 1 (.slice (some ⟨w.heap.size, 0, none⟩) 0 0) 0 [] :=
  ⟨rfl, Or.inr ⟨w.heap.size, 0, #[], rfl, Nat.le_refl _, heap_alloc_new w _, Nat.le_refl _, by simp [maxLen], rfl, rfl⟩⟩
theorem copied_reads {w W : World} {B n : Nat} {t : TypeId} {v : Value} {xs : List Value} (h : W.ownsRow B t 1 v n xs) : Reads (· < W.heap.size) W v xs :=
  (Reads.of_owns h).there.mono (fun g hg => hg.2)
theorem own_bls {W : World} {B : Nat} {t : TypeId} {v : Value} {l : List Bool} (h : W.ownsRow B t 1 v (0 + (bls l).length) ([] ++ bls l)) : W.ownsRow B t 1 v l.length (bls l) := by
  rw [Nat.zero_add, List.nil_append, bls_len] at h
  exact h
theorem findV_form (l : List Bool) (n : Int) : ∃ p q : Int, findV l n = .tuple #[.int .i64 p, .int .i64 q] := by
  unfold findV
  split
  · exact ⟨_, _, rfl⟩
  · cases F l n.toNat with
    | none => exact ⟨_, _, rfl⟩
    | some k => exact ⟨_, _, rfl⟩
set_option maxHeartbeats 1000000 in
theorem AllocFinds_walk (l : List Bool) (v : Value) (n : Int) (w : World) (h : Reads (· < w.heap.size) w v (bls l)) (hn : n ≤ 9223372036854775807) :
    Calls Try.prog 3 #[v, .int .i64 n] w fun e w' => e = .returned (.bool true) ∧ Below w.heap.size w w' := by
  by_cases hl : l.length ≤ 400
  · obtain ⟨i0, hi, hz0, hz1, hz2⟩ := info_parts infoB
    obtain ⟨p, q, hf⟩ := findV_form l n
    have CF := Lib.hid (fun (u : World) (x : Value) (hx : Reads (· < u.heap.size) u x (bls l)) => find_any l x u hx hl n hn)
    have CR := Lib.hid (fun (u : World) (x : Value) (hx : Reads (· < u.heap.size) u x (bls l)) => refFind_any l x u hx hl n hn)
    have CS := Lib.hid (fun (u : World) (x y : Value) (hx : Reads (· < u.heap.size) u x (bls l)) (hy : Reads (· < u.heap.size) u y (bls l)) => same_any l x y u hx hy hl)
    have HA := Lib.hid awake_any
    rw [hf] at CF CR
    clear hf
    have hA := below_new w (.cells #[] 4)
    have HR := Lib.hid (next h hA)
    have HO := Lib.hid (own_empty w 4)
    have h0 := h
    obtain ⟨a, c, rfl, _⟩ := h0.shape
    have H := Lib.hid h
    clear h h0
    have hbl : (bls l).length = l.length := bls_len l
    rw [bls_len] at *
    have h1 := Lib.hid (bls_one l)
    have hl3 : (l.length : Int) ≤ 400 := by omega
    go_enter Try.func3, Try.ntmps3
    go_wp2_with (at_builtin; refine wpList_append_reads _ rfl _ _ 22 rfl w.heap.size 4 i0 (.bool false) 1 Try.underlying22 hi hz0 hz1 hz2 rfl (.slice (some ⟨w.heap.size, 0, none⟩) 0 0) 0 [] rfl HO.out _ _ (bls l) rfl HR.out h1.out (by rw [bls_len]; unfold maxLen; omega) (by rw [bls_len]; omega) (by simp) ?_; intro v' w1 hown hgrow; replace hown := own_bls hown; have hb1 := hA.grown hgrow (by simp) (fun g hg => by simp [Value.ownBlock] at hg; omega); obtain ⟨a', c', rfl⟩ := owns_form' hown; have HI := Lib.hid (copied_reads (w := w) hown); have HJ := Lib.hid (next H.out hb1); clear hown hgrow)
    (go_at_call 10; (with_reducible refine (CF.out _ _ HI.out).mono ?_); rintro e w2 ⟨rfl, hb⟩; have HI2 := Lib.hid (next HI.out hb); have HJ2 := Lib.hid (next HJ.out hb); have B2 := Lib.hid (below_of hb1 hb); clear hb)
    go_wp2_with fail
    (go_at_call 11; (with_reducible refine (CR.out _ _ HJ2.out).mono ?_); rintro e w3 ⟨rfl, rfl⟩)
    go_wp2_with fail
    (go_at_call 12; (with_reducible refine (CS.out _ _ _ HI2.out HJ2.out).mono ?_); rintro e w3 ⟨rfl, hb⟩; have B3 := Lib.hid (below_of B2.out hb); clear hb)
    go_wp2_with fail
    (go_at_call 9; (with_reducible refine (HA.out _).mono ?_); rintro e w4 ⟨rfl, hb⟩; have B4 := Lib.hid (below_of B3.out hb); clear hb)
    go_wp2_with fail
    go_ret
    exact ⟨rfl, B4.out⟩
  · have HA := Lib.hid awake_any
    obtain ⟨a, c, rfl, _⟩ := h.shape
    rw [bls_len] at *
    have hl' : (400 : Int) < (l.length : Int) := by omega
    clear h hl
    generalize l.length = m at *
    go_enter Try.func3, Try.ntmps3
    go_wp2_with (go_at_call 9; (with_reducible refine (HA.out _).mono ?_); rintro e w4 ⟨rfl, hb⟩)
    go_ret
    exact ⟨rfl, hb⟩
end Go.Proofs.Ytegcekniolajeaa.WK
