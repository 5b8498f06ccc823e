/-
  The program's Open. Nothing here is a statement of the seed.
-/
import Derived.Test.YtigalcmhongleaaGtPF
set_option linter.unusedSimpArgs false
set_option linter.unusedVariables false
namespace Go.Proofs.Ytigalcmhongleaa.GK
open Go.RowKit WM NR OM OR GA GF
set_option maxHeartbeats 4000000
set_option maxRecDepth 10000
/-- the table, what is asked, what has changed -/
structure PO (w : World) (p : Nat) (f : Tb) (c : Array Value) (u : World) : Prop where
  X : Whole u p 53 (tC f)
  N : Whole u w.heap.size 35 c
  F : Fr (fun i => i = p) w u
theorem PO.belowS {w u u' : World} {p : Nat} {f : Tb} {c : Array Value} (h : PO w p f c u) (hb : Below u.heap.size u u') : PO w p f c u' := ⟨h.X.belowS hb, h.N.belowS hb, h.F.then hb⟩
theorem PO.new {w : World} {p : Nat} {f : Tb} (c : Array Value) (hW : Whole w p 53 (tC f)) : PO w p f c (w.alloc (.cells c 35)) := by
  have b1 := below_new w (.cells c 35)
  exact ⟨hW.belowS b1, Whole.new _ _ _, (Fr.refl _ _).then b1⟩
theorem free_no {f : Tb} (h : firstB f = -1) : freeM f = 0 := by
  have hc := fst8_cases (fun g => decide ((f g).ow = 0))
  change (firstB f = -1 ∧ _) ∨ (∃ k : Nat, k < 8 ∧ firstB f = (k : Int) ∧ _) at hc
  rcases hc with ⟨_, hn⟩ | ⟨k, _, hk, _⟩
  · unfold freeM freeF
    rw [List.filter_eq_nil_iff.2 (fun x hx => by have := hn x (by simpa using hx); simpa using this)]
    rfl
  · omega
theorem free_yes {f : Tb} {k : Nat} (hk : k < 8) (h : firstB f = (k : Int)) : freeM f ≠ 0 := by
  have hc := fst8_cases (fun g => decide ((f g).ow = 0))
  change (firstB f = -1 ∧ _) ∨ (∃ k : Nat, k < 8 ∧ firstB f = (k : Int) ∧ _) at hc
  rcases hc with ⟨h1, _⟩ | ⟨j, hj, hj2, hy, _⟩
  · omega
  · unfold freeM freeF
    intro e
    have e2 : ((List.range 8).filter fun g => decide ((f g).ow = 0)) = [] := List.eq_nil_of_length_eq_zero (by omega)
    rw [List.filter_eq_nil_iff] at e2
    exact e2 j (by simpa using hj) hy
section
variable {w : World} {f : Tb} {p : Nat} {X : ByteArray} {o k : Int}
theorem open_name {c : Int} (hc : (c != 0) = true) (hW : Whole w p 53 (tC f)) (CK : ∀ u, Calls Try.prog 25 #[.string X] u fun e u2 => e = .returned (.int .i64 c) ∧ Below u.heap.size u u2) :
    Calls Try.prog 13 #[.pointer (some ⟨p, 0, none⟩), .agg #[.string X, .int .u16 o, .int .u32 k]] w fun e u => e = .returned (.tuple #[.int .i64 0, .int .i64 6]) ∧ Whole u p 53 (tC f) ∧ Fr (fun i => i = p) w u := by
  have J := Lib.hid (PO.new (nC X o k) hW)
  have hpw := hW.lt
  have CK := Lib.hid CK
  clear hW
  go_enter Try.func13, Try.ntmps13
  go_upto_region 1 with fail
  generalize w.alloc (.cells #[.string X, .int .u16 o, .int .u32 k] 35) = W at *
  have KN : Hid (∀ u, PO w p f #[.string X, .int .u16 o, .int .u32 k] u → u.cell? ⟨w.heap.size, 0, none⟩ = some (.string X) ∧ u.cell? ⟨w.heap.size, 1, none⟩ = some (.int .u16 o) ∧ u.cell? ⟨w.heap.size, 2, none⟩ = some (.int .u32 k) ∧ w.heap.size < u.heap.size) := Lib.hid (fun u h => ⟨h.N.cell 0, h.N.cell 1, h.N.cell 2, h.N.lt⟩)
  obtain ⟨n0, n1, n2, n6⟩ := KN.out _ J.out
  go_wp2_with (first | (go_at_call 25; (with_reducible refine (CK.out _).mono ?_); rintro e w1 ⟨rfl, hB⟩; have J := Lib.hid (J.out.belowS hB); clear hB n0 n1 n2 n6; obtain ⟨n0, n1, n2, n6⟩ := KN.out _ J.out))
  exact bodyPost_ret (v := .tuple #[.int .i64 0, .int .i64 6]) (by simp [results, Try.results13, go_sem]) rfl ⟨rfl, J.out.X, J.out.F⟩
theorem open_arg0 {c : Int} (hc : (c != 0) = false) (h0 : (o == 0) = true) (hW : Whole w p 53 (tC f)) (CK : ∀ u, Calls Try.prog 25 #[.string X] u fun e u2 => e = .returned (.int .i64 c) ∧ Below u.heap.size u u2) :
    Calls Try.prog 13 #[.pointer (some ⟨p, 0, none⟩), .agg #[.string X, .int .u16 o, .int .u32 k]] w fun e u => e = .returned (.tuple #[.int .i64 0, .int .i64 2]) ∧ Whole u p 53 (tC f) ∧ Fr (fun i => i = p) w u := by
  have J := Lib.hid (PO.new (nC X o k) hW)
  have hpw := hW.lt
  have CK := Lib.hid CK
  clear hW
  go_enter Try.func13, Try.ntmps13
  go_upto_region 1 with fail
  generalize w.alloc (.cells #[.string X, .int .u16 o, .int .u32 k] 35) = W at *
  have KN : Hid (∀ u, PO w p f #[.string X, .int .u16 o, .int .u32 k] u → u.cell? ⟨w.heap.size, 0, none⟩ = some (.string X) ∧ u.cell? ⟨w.heap.size, 1, none⟩ = some (.int .u16 o) ∧ u.cell? ⟨w.heap.size, 2, none⟩ = some (.int .u32 k) ∧ w.heap.size < u.heap.size) := Lib.hid (fun u h => ⟨h.N.cell 0, h.N.cell 1, h.N.cell 2, h.N.lt⟩)
  obtain ⟨n0, n1, n2, n6⟩ := KN.out _ J.out
  go_wp2_with (first | (go_at_call 25; (with_reducible refine (CK.out _).mono ?_); rintro e w1 ⟨rfl, hB⟩; have J := Lib.hid (J.out.belowS hB); clear hB n0 n1 n2 n6; obtain ⟨n0, n1, n2, n6⟩ := KN.out _ J.out))
  exact bodyPost_ret (v := .tuple #[.int .i64 0, .int .i64 2]) (by simp [results, Try.results13, go_sem]) rfl ⟨rfl, J.out.X, J.out.F⟩
theorem open_arg1 {c : Int} (hc : (c != 0) = false) (h0 : (o == 0) = false) (h1 : (k == 0) = true) (hW : Whole w p 53 (tC f)) (CK : ∀ u, Calls Try.prog 25 #[.string X] u fun e u2 => e = .returned (.int .i64 c) ∧ Below u.heap.size u u2) :
    Calls Try.prog 13 #[.pointer (some ⟨p, 0, none⟩), .agg #[.string X, .int .u16 o, .int .u32 k]] w fun e u => e = .returned (.tuple #[.int .i64 0, .int .i64 2]) ∧ Whole u p 53 (tC f) ∧ Fr (fun i => i = p) w u := by
  have J := Lib.hid (PO.new (nC X o k) hW)
  have hpw := hW.lt
  have CK := Lib.hid CK
  clear hW
  go_enter Try.func13, Try.ntmps13
  go_upto_region 1 with fail
  generalize w.alloc (.cells #[.string X, .int .u16 o, .int .u32 k] 35) = W at *
  have KN : Hid (∀ u, PO w p f #[.string X, .int .u16 o, .int .u32 k] u → u.cell? ⟨w.heap.size, 0, none⟩ = some (.string X) ∧ u.cell? ⟨w.heap.size, 1, none⟩ = some (.int .u16 o) ∧ u.cell? ⟨w.heap.size, 2, none⟩ = some (.int .u32 k) ∧ w.heap.size < u.heap.size) := Lib.hid (fun u h => ⟨h.N.cell 0, h.N.cell 1, h.N.cell 2, h.N.lt⟩)
  obtain ⟨n0, n1, n2, n6⟩ := KN.out _ J.out
  go_wp2_with (first | (go_at_call 25; (with_reducible refine (CK.out _).mono ?_); rintro e w1 ⟨rfl, hB⟩; have J := Lib.hid (J.out.belowS hB); clear hB n0 n1 n2 n6; obtain ⟨n0, n1, n2, n6⟩ := KN.out _ J.out))
  exact bodyPost_ret (v := .tuple #[.int .i64 0, .int .i64 2]) (by simp [results, Try.results13, go_sem]) rfl ⟨rfl, J.out.X, J.out.F⟩
theorem open_there0 {c G : Int} (hc : (c != 0) = false) (h0 : (o == 0) = false) (h1 : (k == 0) = false) (hG : decide (0 ≤ G) = true) (hW : Whole w p 53 (tC f)) (CK : ∀ u, Calls Try.prog 25 #[.string X] u fun e u2 => e = .returned (.int .i64 c) ∧ Below u.heap.size u u2) (CG : ∀ u, Whole u p 53 (tC f) → Calls Try.prog 26 #[.pointer (some ⟨p, 0, none⟩), .string X] u fun e u2 => e = .returned (.int .i64 G) ∧ Below u.heap.size u u2) :
    Calls Try.prog 13 #[.pointer (some ⟨p, 0, none⟩), .agg #[.string X, .int .u16 o, .int .u32 k]] w fun e u => e = .returned (.tuple #[.int .i64 0, .int .i64 9]) ∧ Whole u p 53 (tC f) ∧ Fr (fun i => i = p) w u := by
  have J := Lib.hid (PO.new (nC X o k) hW)
  have hpw := hW.lt
  have CK := Lib.hid CK
  have CG := Lib.hid CG
  clear hW
  go_enter Try.func13, Try.ntmps13
  go_upto_region 1 with fail
  generalize w.alloc (.cells #[.string X, .int .u16 o, .int .u32 k] 35) = W at *
  have KN : Hid (∀ u, PO w p f #[.string X, .int .u16 o, .int .u32 k] u → u.cell? ⟨w.heap.size, 0, none⟩ = some (.string X) ∧ u.cell? ⟨w.heap.size, 1, none⟩ = some (.int .u16 o) ∧ u.cell? ⟨w.heap.size, 2, none⟩ = some (.int .u32 k) ∧ w.heap.size < u.heap.size) := Lib.hid (fun u h => ⟨h.N.cell 0, h.N.cell 1, h.N.cell 2, h.N.lt⟩)
  obtain ⟨n0, n1, n2, n6⟩ := KN.out _ J.out
  go_wp2_with (first | (go_at_call 25; (with_reducible refine (CK.out _).mono ?_); rintro e w1 ⟨rfl, hB⟩; have J := Lib.hid (J.out.belowS hB); clear hB n0 n1 n2 n6; obtain ⟨n0, n1, n2, n6⟩ := KN.out _ J.out) | (go_at_call 26; (with_reducible refine (CG.out _ J.out.X).mono ?_); rintro e w1 ⟨rfl, hB⟩; have J := Lib.hid (J.out.belowS hB); clear hB n0 n1 n2 n6; obtain ⟨n0, n1, n2, n6⟩ := KN.out _ J.out))
  exact bodyPost_ret (v := .tuple #[.int .i64 0, .int .i64 9]) (by simp [results, Try.results13, go_sem]) rfl ⟨rfl, J.out.X, J.out.F⟩
theorem open_there1 {c G : Int} {q : Bool} (hc : (c != 0) = false) (h0 : (o == 0) = false) (h1 : (k == 0) = false) (hG : decide (0 ≤ G) = false) (hq : q = true) (hW : Whole w p 53 (tC f)) (CK : ∀ u, Calls Try.prog 25 #[.string X] u fun e u2 => e = .returned (.int .i64 c) ∧ Below u.heap.size u u2) (CG : ∀ u, Whole u p 53 (tC f) → Calls Try.prog 26 #[.pointer (some ⟨p, 0, none⟩), .string X] u fun e u2 => e = .returned (.int .i64 G) ∧ Below u.heap.size u u2) (CO : ∀ u, Whole u p 53 (tC f) → Calls Try.prog 27 #[.pointer (some ⟨p, 0, none⟩), .int .u16 o] u fun e u2 => e = .returned (.bool q) ∧ Below u.heap.size u u2) :
    Calls Try.prog 13 #[.pointer (some ⟨p, 0, none⟩), .agg #[.string X, .int .u16 o, .int .u32 k]] w fun e u => e = .returned (.tuple #[.int .i64 0, .int .i64 9]) ∧ Whole u p 53 (tC f) ∧ Fr (fun i => i = p) w u := by
  have J := Lib.hid (PO.new (nC X o k) hW)
  have hpw := hW.lt
  have CK := Lib.hid CK
  have CG := Lib.hid CG
  have CO := Lib.hid CO
  clear hW
  go_enter Try.func13, Try.ntmps13
  go_upto_region 1 with fail
  generalize w.alloc (.cells #[.string X, .int .u16 o, .int .u32 k] 35) = W at *
  have KN : Hid (∀ u, PO w p f #[.string X, .int .u16 o, .int .u32 k] u → u.cell? ⟨w.heap.size, 0, none⟩ = some (.string X) ∧ u.cell? ⟨w.heap.size, 1, none⟩ = some (.int .u16 o) ∧ u.cell? ⟨w.heap.size, 2, none⟩ = some (.int .u32 k) ∧ w.heap.size < u.heap.size) := Lib.hid (fun u h => ⟨h.N.cell 0, h.N.cell 1, h.N.cell 2, h.N.lt⟩)
  obtain ⟨n0, n1, n2, n6⟩ := KN.out _ J.out
  go_wp2_with (first | (go_at_call 25; (with_reducible refine (CK.out _).mono ?_); rintro e w1 ⟨rfl, hB⟩; have J := Lib.hid (J.out.belowS hB); clear hB n0 n1 n2 n6; obtain ⟨n0, n1, n2, n6⟩ := KN.out _ J.out) | (go_at_call 26; (with_reducible refine (CG.out _ J.out.X).mono ?_); rintro e w1 ⟨rfl, hB⟩; have J := Lib.hid (J.out.belowS hB); clear hB n0 n1 n2 n6; obtain ⟨n0, n1, n2, n6⟩ := KN.out _ J.out) | (go_at_call 27; (with_reducible refine (CO.out _ J.out.X).mono ?_); rintro e w1 ⟨rfl, hB⟩; have J := Lib.hid (J.out.belowS hB); clear hB n0 n1 n2 n6; obtain ⟨n0, n1, n2, n6⟩ := KN.out _ J.out))
  exact bodyPost_ret (v := .tuple #[.int .i64 0, .int .i64 9]) (by simp [results, Try.results13, go_sem]) rfl ⟨rfl, J.out.X, J.out.F⟩
theorem open_full {c G R : Int} {q : Bool} (hc : (c != 0) = false) (h0 : (o == 0) = false) (h1 : (k == 0) = false) (hG : decide (0 ≤ G) = false) (hq : q = false) (hR : (R == 0) = true) (hW : Whole w p 53 (tC f)) (CK : ∀ u, Calls Try.prog 25 #[.string X] u fun e u2 => e = .returned (.int .i64 c) ∧ Below u.heap.size u u2) (CG : ∀ u, Whole u p 53 (tC f) → Calls Try.prog 26 #[.pointer (some ⟨p, 0, none⟩), .string X] u fun e u2 => e = .returned (.int .i64 G) ∧ Below u.heap.size u u2) (CO : ∀ u, Whole u p 53 (tC f) → Calls Try.prog 27 #[.pointer (some ⟨p, 0, none⟩), .int .u16 o] u fun e u2 => e = .returned (.bool q) ∧ Below u.heap.size u u2) (CR : ∀ u, Whole u p 53 (tC f) → Calls Try.prog 18 #[.pointer (some ⟨p, 0, none⟩)] u fun e u2 => e = .returned (.int .i64 R) ∧ Below u.heap.size u u2) :
    Calls Try.prog 13 #[.pointer (some ⟨p, 0, none⟩), .agg #[.string X, .int .u16 o, .int .u32 k]] w fun e u => e = .returned (.tuple #[.int .i64 0, .int .i64 28]) ∧ Whole u p 53 (tC f) ∧ Fr (fun i => i = p) w u := by
  have J := Lib.hid (PO.new (nC X o k) hW)
  have hpw := hW.lt
  have CK := Lib.hid CK
  have CG := Lib.hid CG
  have CO := Lib.hid CO
  have CR := Lib.hid CR
  clear hW
  go_enter Try.func13, Try.ntmps13
  go_upto_region 1 with fail
  generalize w.alloc (.cells #[.string X, .int .u16 o, .int .u32 k] 35) = W at *
  have KN : Hid (∀ u, PO w p f #[.string X, .int .u16 o, .int .u32 k] u → u.cell? ⟨w.heap.size, 0, none⟩ = some (.string X) ∧ u.cell? ⟨w.heap.size, 1, none⟩ = some (.int .u16 o) ∧ u.cell? ⟨w.heap.size, 2, none⟩ = some (.int .u32 k) ∧ w.heap.size < u.heap.size) := Lib.hid (fun u h => ⟨h.N.cell 0, h.N.cell 1, h.N.cell 2, h.N.lt⟩)
  obtain ⟨n0, n1, n2, n6⟩ := KN.out _ J.out
  go_wp2_with (first | (go_at_call 25; (with_reducible refine (CK.out _).mono ?_); rintro e w1 ⟨rfl, hB⟩; have J := Lib.hid (J.out.belowS hB); clear hB n0 n1 n2 n6; obtain ⟨n0, n1, n2, n6⟩ := KN.out _ J.out) | (go_at_call 26; (with_reducible refine (CG.out _ J.out.X).mono ?_); rintro e w1 ⟨rfl, hB⟩; have J := Lib.hid (J.out.belowS hB); clear hB n0 n1 n2 n6; obtain ⟨n0, n1, n2, n6⟩ := KN.out _ J.out) | (go_at_call 27; (with_reducible refine (CO.out _ J.out.X).mono ?_); rintro e w1 ⟨rfl, hB⟩; have J := Lib.hid (J.out.belowS hB); clear hB n0 n1 n2 n6; obtain ⟨n0, n1, n2, n6⟩ := KN.out _ J.out) | (go_at_call 18; (with_reducible refine (CR.out _ J.out.X).mono ?_); rintro e w1 ⟨rfl, hB⟩; have J := Lib.hid (J.out.belowS hB); clear hB n0 n1 n2 n6; obtain ⟨n0, n1, n2, n6⟩ := KN.out _ J.out))
  exact bodyPost_ret (v := .tuple #[.int .i64 0, .int .i64 28]) (by simp [results, Try.results13, go_sem]) rfl ⟨rfl, J.out.X, J.out.F⟩
theorem open_fit {c G R : Int} {q : Bool} {kk : Nat} {g : Tb} (hkk : kk < 8) (hc : (c != 0) = false) (h0 : (o == 0) = false) (h1 : (k == 0) = false) (hG : decide (0 ≤ G) = false) (hq : q = false) (hR : (R == 0) = false) (hg : ∀ u, Whole u p 53 (tC f) → Whole (((u.setCell ⟨p, kk * 3, none⟩ (.string X)).setCell ⟨p, kk * 3 + 1, none⟩ (.int .u16 o)).setCell ⟨p, kk * 3 + 2, none⟩ (.int .u32 k)) p 53 (tC g)) (hW : Whole w p 53 (tC f)) (CK : ∀ u, Calls Try.prog 25 #[.string X] u fun e u2 => e = .returned (.int .i64 c) ∧ Below u.heap.size u u2) (CG : ∀ u, Whole u p 53 (tC f) → Calls Try.prog 26 #[.pointer (some ⟨p, 0, none⟩), .string X] u fun e u2 => e = .returned (.int .i64 G) ∧ Below u.heap.size u u2) (CO : ∀ u, Whole u p 53 (tC f) → Calls Try.prog 27 #[.pointer (some ⟨p, 0, none⟩), .int .u16 o] u fun e u2 => e = .returned (.bool q) ∧ Below u.heap.size u u2) (CR : ∀ u, Whole u p 53 (tC f) → Calls Try.prog 18 #[.pointer (some ⟨p, 0, none⟩)] u fun e u2 => e = .returned (.int .i64 R) ∧ Below u.heap.size u u2) (CI : ∀ u, Whole u p 53 (tC f) → Calls Try.prog 29 #[.slice (some ⟨p, 0, none⟩) 8 8, .agg #[.string ⟨#[]⟩, .int .u16 0, .int .u32 0]] u fun e u2 => e = .returned (.int .i64 (kk : Int)) ∧ Below u.heap.size u u2) (CC : ∀ u, Calls Try.prog 28 #[.string X] u fun e u2 => e = .returned (.string X) ∧ Below u.heap.size u u2) :
    Calls Try.prog 13 #[.pointer (some ⟨p, 0, none⟩), .agg #[.string X, .int .u16 o, .int .u32 k]] w fun e u => e = .returned (.tuple #[.int .i64 (kk : Int), .int .i64 0]) ∧ Whole u p 53 (tC g) ∧ Fr (fun i => i = p) w u := by
  subst hq
  have kk8 : (kk : Int) < 8 := by omega
  have HG := Lib.hid hg
  clear hg
  have J := Lib.hid (PO.new (nC X o k) hW)
  have hpw := hW.lt
  have CK := Lib.hid CK
  have CG := Lib.hid CG
  have CO := Lib.hid CO
  have CR := Lib.hid CR
  have CI := Lib.hid CI
  have CC := Lib.hid CC
  clear hW
  go_enter Try.func13, Try.ntmps13
  go_upto_region 1 with fail
  generalize w.alloc (.cells #[.string X, .int .u16 o, .int .u32 k] 35) = W at *
  have KN : Hid (∀ u, PO w p f #[.string X, .int .u16 o, .int .u32 k] u → u.cell? ⟨w.heap.size, 0, none⟩ = some (.string X) ∧ u.cell? ⟨w.heap.size, 1, none⟩ = some (.int .u16 o) ∧ u.cell? ⟨w.heap.size, 2, none⟩ = some (.int .u32 k) ∧ w.heap.size < u.heap.size) := Lib.hid (fun u h => ⟨h.N.cell 0, h.N.cell 1, h.N.cell 2, h.N.lt⟩)
  obtain ⟨n0, n1, n2, n6⟩ := KN.out _ J.out
  go_upto_region 13 with (first | (go_at_call 25; (with_reducible refine (CK.out _).mono ?_); rintro e w1 ⟨rfl, hB⟩; have J := Lib.hid (J.out.belowS hB); clear hB n0 n1 n2 n6; obtain ⟨n0, n1, n2, n6⟩ := KN.out _ J.out) | (go_at_call 26; (with_reducible refine (CG.out _ J.out.X).mono ?_); rintro e w1 ⟨rfl, hB⟩; have J := Lib.hid (J.out.belowS hB); clear hB n0 n1 n2 n6; obtain ⟨n0, n1, n2, n6⟩ := KN.out _ J.out) | (go_at_call 27; (with_reducible refine (CO.out _ J.out.X).mono ?_); rintro e w1 ⟨rfl, hB⟩; have J := Lib.hid (J.out.belowS hB); clear hB n0 n1 n2 n6; obtain ⟨n0, n1, n2, n6⟩ := KN.out _ J.out) | (go_at_call 18; (with_reducible refine (CR.out _ J.out.X).mono ?_); rintro e w1 ⟨rfl, hB⟩; have J := Lib.hid (J.out.belowS hB); clear hB n0 n1 n2 n6; obtain ⟨n0, n1, n2, n6⟩ := KN.out _ J.out))
  have fN0 := J.out.N.frozen 0
  go_upto_region 14 with (first | (go_at_call 28; (with_reducible refine (CC.out _).mono ?_); rintro e w1 ⟨rfl, hB⟩; have J := Lib.hid (J.out.belowS hB); clear hB n0 n1 n2 n6 fN0; obtain ⟨n0, n1, n2, n6⟩ := KN.out _ J.out; have fN0 := J.out.N.frozen 0))
  have JS : Hid (PO w p f (nC X o k) (w1.setCell ⟨w.heap.size, 0, none⟩ (.string X))) := Lib.hid ⟨J.out.X.far (p := ⟨w.heap.size, 0, none⟩) (show p ≠ w.heap.size by omega) _, J.out.N.set_ 0 _, J.out.F.set (p := ⟨w.heap.size, 0, none⟩) (Or.inr (Nat.le_refl _)) _⟩
  clear n0 n1 n2 n6 fN0 J
  generalize w1.setCell ⟨w.heap.size, 0, none⟩ (.string X) = W2 at *
  have x6 := JS.out.X.lt
  go_upto_region 15 with (first | (go_at_call 29; (with_reducible refine (CI.out _ JS.out.X).mono ?_); rintro e w3 ⟨rfl, hB⟩; have J3 := Lib.hid (JS.out.belowS hB); clear hB))
  clear x6 CI CC CR CO CG CK JS KN
  obtain ⟨y0, y1, y2⟩ := box_at J3.out.X hkk
  have x6 := J3.out.X.lt
  have xf0 := J3.out.X.frozen (kk * 3)
  have xf1 := J3.out.X.frozen (kk * 3 + 1)
  have xf2 := J3.out.X.frozen (kk * 3 + 2)
  have hbd : Below w3.heap.size w3 w3.drew := (Below.refl _ _).drew
  have K0 := J3.out.N.belowS hbd
  have hN3 := ((J3.out.N.far (p := ⟨p, kk * 3, none⟩) (show w.heap.size ≠ p by omega) (.string X)).far (p := ⟨p, kk * 3 + 1, none⟩) (show w.heap.size ≠ p by omega) (.int .u16 o)).far (p := ⟨p, kk * 3 + 2, none⟩) (show w.heap.size ≠ p by omega) (.int .u32 k)
  have K1 := hN3.belowS ((Below.refl _ _).drew)
  have HX5 := Lib.hid ((HG.out _ J3.out.X).belowS ((Below.refl _ _).drew))
  have HF5 := Lib.hid (((J3.out.F.set (p := ⟨p, kk * 3, none⟩) (Or.inl rfl) (.string X)).set (p := ⟨p, kk * 3 + 1, none⟩) (Or.inl rfl) (.int .u16 o)).set (p := ⟨p, kk * 3 + 2, none⟩) (Or.inl rfl) (.int .u32 k)).drew
  clear hN3
  refine wp_region_held_drew (S := fun u => Whole u w.heap.size 35 (nC X o k)) (by kernel_rfl) K0 (fun hHeld => ?_)
  refine wpAnyH_take (i := 0) (v := ?evv0) rfl (by kernel_rfl) (by kernel_rfl) (by kernel_rfl) (fun _ _ _ h => h) (Or.inl ⟨by rfl, ?ehy0⟩) (by assumption) ?erest0
  case ehy0 =>
    intro u hSu
    obtain ⟨s0, s1, s2⟩ : u.cell? ⟨w.heap.size, 0, none⟩ = some (.string X) ∧ u.cell? ⟨w.heap.size, 1, none⟩ = some (.int .u16 o) ∧ u.cell? ⟨w.heap.size, 2, none⟩ = some (.int .u32 k) := ⟨hSu.cell 0, hSu.cell 1, hSu.cell 2⟩; have s6 := hSu.lt
    go_simp
    try with_reducible rfl
  try simp only [Act.put, List.getElem_toArray, List.getElem_cons_succ, List.getElem_cons_zero, List.setIfInBounds_toArray, List.set_cons_zero, List.set_cons_succ]
  refine wpAnyH_take (i := 1) (v := ?evv1) rfl (by kernel_rfl) (by kernel_rfl) (by kernel_rfl) (fun _ _ _ h => h) (Or.inl ⟨by rfl, ?ehy1⟩) (by assumption) ?erest1
  case ehy1 =>
    intro u hSu
    obtain ⟨s0, s1, s2⟩ : u.cell? ⟨w.heap.size, 0, none⟩ = some (.string X) ∧ u.cell? ⟨w.heap.size, 1, none⟩ = some (.int .u16 o) ∧ u.cell? ⟨w.heap.size, 2, none⟩ = some (.int .u32 k) := ⟨hSu.cell 0, hSu.cell 1, hSu.cell 2⟩; have s6 := hSu.lt
    go_simp
    try with_reducible rfl
  try simp only [Act.put, List.getElem_toArray, List.getElem_cons_succ, List.getElem_cons_zero, List.setIfInBounds_toArray, List.set_cons_zero, List.set_cons_succ]
  refine wpAnyH_take (i := 2) (v := ?evv2) rfl (by kernel_rfl) (by kernel_rfl) (by kernel_rfl) (fun _ _ _ h => h) (Or.inl ⟨by rfl, ?ehy2⟩) (by assumption) ?erest2
  case ehy2 =>
    intro u hSu
    obtain ⟨s0, s1, s2⟩ : u.cell? ⟨w.heap.size, 0, none⟩ = some (.string X) ∧ u.cell? ⟨w.heap.size, 1, none⟩ = some (.int .u16 o) ∧ u.cell? ⟨w.heap.size, 2, none⟩ = some (.int .u32 k) := ⟨hSu.cell 0, hSu.cell 1, hSu.cell 2⟩; have s6 := hSu.lt
    go_simp
    try with_reducible rfl
  try simp only [Act.put, List.getElem_toArray, List.getElem_cons_succ, List.getElem_cons_zero, List.setIfInBounds_toArray, List.set_cons_zero, List.set_cons_succ]
  refine wpAnyH_take (i := 3) (v := ?evv3) rfl (by kernel_rfl) (by kernel_rfl) (by kernel_rfl) (fun _ _ _ h => h) (Or.inl ⟨by rfl, ?ehy3⟩) (by assumption) ?erest3
  case ehy3 =>
    intro u hSu
    obtain ⟨s0, s1, s2⟩ : u.cell? ⟨w.heap.size, 0, none⟩ = some (.string X) ∧ u.cell? ⟨w.heap.size, 1, none⟩ = some (.int .u16 o) ∧ u.cell? ⟨w.heap.size, 2, none⟩ = some (.int .u32 k) := ⟨hSu.cell 0, hSu.cell 1, hSu.cell 2⟩; have s6 := hSu.lt
    go_simp
    try with_reducible rfl
  try simp only [Act.put, List.getElem_toArray, List.getElem_cons_succ, List.getElem_cons_zero, List.setIfInBounds_toArray, List.set_cons_zero, List.set_cons_succ]
  refine wpAnyH_take (i := 4) (v := ?evv4) rfl (by kernel_rfl) (by kernel_rfl) (by kernel_rfl) (fun _ _ _ h => h) (Or.inl ⟨by rfl, ?ehy4⟩) (by assumption) ?erest4
  case ehy4 =>
    intro u hSu
    obtain ⟨s0, s1, s2⟩ : u.cell? ⟨w.heap.size, 0, none⟩ = some (.string X) ∧ u.cell? ⟨w.heap.size, 1, none⟩ = some (.int .u16 o) ∧ u.cell? ⟨w.heap.size, 2, none⟩ = some (.int .u32 k) := ⟨hSu.cell 0, hSu.cell 1, hSu.cell 2⟩; have s6 := hSu.lt
    go_simp
    try with_reducible rfl
  try simp only [Act.put, List.getElem_toArray, List.getElem_cons_succ, List.getElem_cons_zero, List.setIfInBounds_toArray, List.set_cons_zero, List.set_cons_succ]
  refine wpAnyH_take (i := 5) (v := ?evv5) rfl (by kernel_rfl) (by kernel_rfl) (by kernel_rfl) (fun _ _ _ h => h) (Or.inl ⟨by rfl, ?ehy5⟩) (by assumption) ?erest5
  case ehy5 =>
    intro u hSu
    obtain ⟨s0, s1, s2⟩ : u.cell? ⟨w.heap.size, 0, none⟩ = some (.string X) ∧ u.cell? ⟨w.heap.size, 1, none⟩ = some (.int .u16 o) ∧ u.cell? ⟨w.heap.size, 2, none⟩ = some (.int .u32 k) := ⟨hSu.cell 0, hSu.cell 1, hSu.cell 2⟩; have s6 := hSu.lt
    go_simp
    try with_reducible rfl
  try simp only [Act.put, List.getElem_toArray, List.getElem_cons_succ, List.getElem_cons_zero, List.setIfInBounds_toArray, List.set_cons_zero, List.set_cons_succ]
  refine wpAnyH_ready (rs := [6]) (by kernel_rfl) (by simp) ?_
  refine AllReadyH.cons rfl (fun K hK => ?_) AllReadyH.nil
  go_simp
  refine hK.out _ _ ?ehS6 (fun hHeld => ?erest6)
  case ehS6 => exact K1
  clear hK K
  try simp only [Act.put, List.getElem_toArray, List.getElem_cons_succ, List.getElem_cons_zero, List.setIfInBounds_toArray, List.set_cons_zero, List.set_cons_succ]
  refine wpAnyH_done (by kernel_rfl) ?_ _
  clear hHeld K0 K1 hbd y0 y1 y2 x6 xf0 xf1 xf2
  go_wp2_with fail
  exact bodyPost_ret (v := .tuple #[.int .i64 (kk : Int), .int .i64 0]) (by simp [results, Try.results13, go_sem]) rfl ⟨rfl, HX5.out, HF5.out⟩
theorem open_any (hW : Whole w p 53 (tC f)) (hok : Ok f) (b : Bd) (hl : b.nm.length ≤ 2097152) : Calls Try.prog 13 #[.pointer (some ⟨p, 0, none⟩), bdV b] w fun e u => e = .returned (.tuple #[.int .i64 (openM f b).g, .int .i64 (openM f b).e]) ∧ Whole u p 53 (tC (openM f b).t) ∧ Fr (fun i => i = p) w u := by
  have hsz : (bs b.nm).size = b.nm.length := List.size_toArray ..
  have CK := fun u => (NF.checkS (bs b.nm) (by rw [hsz]; omega) (NM.chk b.nm) rfl) u
  have CC := fun u => NF.clone_any (bs b.nm) u (by rw [hsz]; omega)
  have CG := fun u (h : Whole u p 53 (tC f)) => gateOf_any h hok b.nm
  have CO := fun u (h : Whole u p 53 (tC f)) => hasOwner_any h b.ow
  have CR := fun u (h : Whole u p 53 (tC f)) => free_any h hok
  have CI := fun u (h : Whole u p 53 (tC f)) => index_any h hok
  by_cases hc : NM.chk b.nm = 0
  case neg =>
    rw [show openM f b = ⟨f, 0, b0, 6⟩ from if_pos hc]
    exact open_name (by simpa using hc) hW CK
  have hc' : (NM.chk b.nm != 0) = false := by simp [hc]
  have e0 : openM f b = if b.ow = 0 ∨ b.bs = 0 then ⟨f, 0, b0, 2⟩ else if 0 ≤ place f b.nm ∨ ownB f b.ow = true then ⟨f, 0, b0, 9⟩ else if 0 ≤ firstB f then ⟨setT f (firstB f).toNat b, firstB f, b0, 0⟩ else ⟨f, 0, b0, 28⟩ := if_neg (by simpa using hc)
  by_cases h0 : b.ow = 0
  · rw [e0, if_pos (Or.inl h0)]
    exact open_arg0 hc' (by simp [h0]) hW CK
  by_cases h1 : b.bs = 0
  · rw [e0, if_pos (Or.inr h1)]
    exact open_arg1 hc' (by simp [h0]) (by simp [h1]) hW CK
  rw [if_neg (fun h => h.elim h0 h1)] at e0
  by_cases hp : 0 ≤ place f b.nm
  · rw [e0, if_pos (Or.inl hp)]
    exact open_there0 hc' (by simp [h0]) (by simp [h1]) (decide_eq_true hp) hW CK CG
  cases ho : ownB f b.ow
  case true =>
    rw [e0, if_pos (Or.inr ho)]
    rw [ho] at CO
    exact open_there1 hc' (by simp [h0]) (by simp [h1]) (decide_eq_false hp) rfl hW CK CG CO
  rw [ho, if_neg (fun h => h.elim hp (by simp))] at e0
  rw [ho] at CO
  have hcs := fst8_cases (fun g => decide ((f g).ow = 0))
  change (firstB f = -1 ∧ _) ∨ (∃ k : Nat, k < 8 ∧ firstB f = (k : Int) ∧ _) at hcs
  rcases hcs with ⟨hm, _⟩ | ⟨kk, hkk, hm, _, _⟩
  · rw [e0, hm, if_neg (by decide)]
    exact open_full hc' (by simp [h0]) (by simp [h1]) (decide_eq_false hp) rfl (by rw [free_no hm]; rfl) hW CK CG CO CR
  · rw [hm, if_pos (by omega)] at e0
    rw [hm] at CI
    rw [e0]
    exact open_fit hkk hc' (by simp [h0]) (by simp [h1]) (decide_eq_false hp) rfl (by simpa using free_yes hkk hm) (fun u hu => box_set hu hkk b) hW CK CG CO CR CI CC
end
end Go.Proofs.Ytigalcmhongleaa.GK
