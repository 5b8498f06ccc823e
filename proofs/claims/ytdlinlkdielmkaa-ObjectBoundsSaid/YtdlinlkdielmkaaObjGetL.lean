/-
  Lists read, as the program reads them. Nothing here is a statement of the seed.
-/
import Derived.Test.YtdlinlkdielmkaaObjGetP
set_option linter.unusedSimpArgs false
set_option linter.unusedVariables false
namespace Go.Proofs.Ytdlinlkdielmkaa.OR
open Go.RowKit WM NR OM
set_option maxHeartbeats 4000000
set_option maxRecDepth 10000
theorem new_cells (w : World) (cs : List Value) (t : TypeId) : ∀ j x, cs[j]? = some x → (w.alloc (.cells cs.toArray t)).cell? ((⟨w.heap.size, 0, none⟩ : Addr).add j) = some x := by
  intro j x hj
  rw [Addr.add_lit, Nat.zero_add]
  exact (cell_of_row _ w.heap.size j cs.toArray t (0, 0) (heap_alloc_new w _)).trans (by simpa using hj)
theorem grown_on {w w2 w4 : World} {p : Nat} (hg : w.grownBy w2 (some p)) (hb : Below w.heap.size w2 w4) : w.grownBy w4 (some p) :=
  ⟨hb.os.trans hg.os, hb.tape.trans hg.tape, hb.output.trans hg.output, Nat.le_trans hg.size hb.size, fun i hi hr => (hb.block i hi).trans (hg.block i hi hr)⟩
theorem owns_turn {w u : World} {B p : Nat} {e : TypeId} {size n : Nat} {v : Value} {xs : List Value} (h : w.ownsRow B e size v n xs) (hg : w.grownBy u (some p)) (hp : p < B) : u.ownsRow B e size v n xs :=
  h.kept (w' := u) (row := some p) hg (by
    cases hv : v.ownBlock with
    | none => exact Or.inl rfl
    | some g =>
      refine Or.inr fun hh => ?_
      have h1 := (h.lt g hv).1
      have h2 := Option.some.inj hh
      omega)
/-- a list that a call made of what it read -/
def IsList (w : World) (p : Nat) (t : TypeId) (size : Nat) (n : Nat) (xs : List Value) (e : Nat) (l : List UInt8) (en : Ending) (w' : World) : Prop :=
  ∃ v, en = .returned v ∧ w'.ownsRow w.heap.size t size v n xs ∧ w.grownBy w' (some p) ∧ Rd w' p l e
theorem rows_none {w : World} {B : Nat} {t : TypeId} {size : Nat} : w.ownsRow B t size (.slice none 0 0) 0 [] := World.ownsRow_nil _ _ _ _
section
variable {w : World} {b p e : Nat} {l : List UInt8}
theorem getListT_any {M : Int} (hM : 0 ≤ M ∧ M ≤ 512) (hbx : w.cell? ⟨b, 0, none⟩ = some (.pointer (some ⟨p, 0, none⟩))) (hbp : b ≠ p) (h : Rd w p l e) (hl : l.length ≤ 16384) :
    Calls Try.prog 68 #[.pointer (some ⟨p, 0, none⟩), .int .u32 M, .func (.func 62) #[] #[.pointer (some ⟨b, 0, none⟩)]] w (IsList w p 9 1 (getL sT M.toNat e l).2.1.length (strs (getL sT M.toNat e l).2.1) (getL sT M.toNat e l).1 (getL sT M.toNat e l).2.2) := by
  obtain ⟨i0, hi, hz0, hz1, hz2⟩ := info_parts infoStr
  obtain ⟨hM0, hM1⟩ := hM
  obtain ⟨e1, n, l1, h1⟩ : ∃ e1 n l1, stVar M.toNat e l = (e1, n, l1) := ⟨_, _, _, rfl⟩
  have s1 := stVar_short M.toNat e l
  have n1 := stVar_bd (M := M.toNat) (e := e) (l := l)
  rw [h1] at s1 n1
  simp only at s1 n1
  unfold getL
  simp only [h1]
  obtain ⟨E, TS, LL, h2⟩ : ∃ E TS LL, itr sT n e1 l1 = (E, TS, LL) := ⟨_, _, _, rfl⟩
  simp only [h2]
  have C1 := Lib.hid (rVar_st w p l l1 e e1 n M h ⟨hM0, by omega⟩ (by omega) h1)
  have hp := h.lt
  have hnI : (n : Int) ≤ 512 := by omega
  have H2 := Lib.hid h2
  have HBX := Lib.hid hbx
  have HL1 := Lib.hid (show l1.length ≤ 16384 by omega)
  clear h1 h2 s1 n1 h hl hbx
  go_enter Try.func68, Try.ntmps68
  go_wp2_with (go_at_call 85; (with_reducible refine C1.out.mono ?_); rintro e w1 ⟨rfl, hg1, hr1⟩)
  go_loopw [7, 11] (fun s i wr => ∃ (k : Nat) (q : Value) (acc : List (List UInt8)) (e2 : Nat) (l2 : List UInt8), k ≤ n ∧ i = .int .u32 (k : Int) ∧ q = s ∧ Hid (acc.length = k) ∧ Hid (wr.ownsRow w.heap.size 9 1 q k (strs acc)) ∧ Hid (w.grownBy wr (some p)) ∧ Hid (Rd wr p l2 e2) ∧ Hid (l2.length ≤ 16384) ∧ Hid (∃ T', acc ++ T' = TS ∧ itr sT (n - k) e2 l2 = (E, T', LL))) (fun _ i _ => n - (intOf i).toNat)
  case atStart => exact ⟨0, _, [], e1, l1, by omega, rfl, rfl, Lib.hid rfl, Lib.hid rows_none, Lib.hid hg1, Lib.hid hr1, HL1, ⟨TS, rfl, by rw [Nat.sub_zero]; exact H2.out⟩⟩
  case round =>
    obtain ⟨k, q, acc, e2, l2, hk, rfl, rfl, hac, hown, hgr, hrd, hle, hit⟩ := hrel
    by_cases hlt : k < n
    · have hlt' : (k : Int) < n := by omega
      have hl := hle.out
      have hr := hrd.out
      have hgb := cell_far hgr.out hbp HBX.out
      have C := Lib.hid (textC_any hgb hr hl)
      have hsh := sT_short e2 l2
      obtain ⟨T', hT1, hT2⟩ := hit.out
      rw [show n - k = (n - (k + 1)) + 1 by omega, itr] at hT2
      obtain ⟨e3, xx, l3, hx⟩ : ∃ e3 xx l3, sT e2 l2 = (e3, xx, l3) := ⟨_, _, _, rfl⟩
      rw [hx] at C hsh
      simp only [hx, Prod.mk.injEq] at C hsh hT2
      have HIT2 := Lib.hid (show ∃ T'', (acc ++ [xx]) ++ T'' = TS ∧ itr sT (n - (k + 1)) e3 l3 = (E, T'', LL) from ⟨_, by rw [← hT1, ← hT2.2.1, List.append_assoc]; rfl, by rw [← hT2.1, ← hT2.2.2]⟩)
      have HL3 := Lib.hid (show l3.length ≤ 16384 by omega)
      have hac2 := Lib.hid (show (acc ++ [xx]).length = k + 1 by rw [List.length_append, hac.out]; rfl)
      have happ := Lib.hid (strs_append acc [xx])
      have hone : Hid ((∀ u ∈ strs [xx], u.oneCell' = true) ∧ (strs [xx]).length = 1 * 1) := ⟨strs_one [xx], rfl⟩
      have hcx : Hid (∀ (u : World), ∀ j x, (strs [xx])[j]? = some x → (u.alloc (.cells (strs [xx]).toArray 9)).cell? ((⟨u.heap.size, 0, none⟩ : Addr).add j) = some x) := fun u => new_cells u _ _
      clear hT1 hT2 hx hsh hl hr hgb
      have hcl : Hid (strs [xx] = [.string (bs xx)]) := rfl
      generalize bs xx = x at *
      rw [hcl.out] at hcx
      go_upto_region 4 with fail
      go_wp2_with (first | (go_at_call 62; (with_reducible refine C.out.mono ?_); rintro e w2 ⟨rfl, hg2, hr2⟩; have O2 := Lib.hid (owns_below (owns_turn hown.out hg2 hp) (below_new w2 (.cells #[.string x] 9))); have HCX := hcx.out w2; have G2 := Lib.hid (grown_trans hgr.out hg2); have hsz2 : w.heap.size ≤ (w2.alloc (.cells #[.string x] 9)).heap.size := (by have h1 := G2.out.size; simp; omega); have hr2 := Lib.hid hr2; clear hg2) | (at_builtin; refine wpList_append_own _ rfl _ _ 22 rfl w.heap.size 9 i0 (.string ⟨#[]⟩) 1 16 Try.underlying22 hi hz0 hz1 hz2 rfl (by decide) _ k _ rfl O2.out ⟨w2.heap.size, 0, none⟩ 1 1 _ rfl (by rfl) HCX (by rw [← hcl.out]; exact hone.out.1) (by unfold maxLen; omega) (by omega) hsz2 ?_; intro v' w4 hown4 hgrow _))
      have hb4 : Below w.heap.size w2 w4 := ((Below.refl _ _).alloc G2.out.size (.cells #[.string x] 9)).grown hgrow hsz2 (fun g hg => (O2.out.lt g hg).1)
      have HO := Lib.hid (show w4.ownsRow w.heap.size 9 1 v' (k + 1) (strs (acc ++ [xx])) by rw [happ.out, hcl.out]; exact hown4)
      have HG := Lib.hid (grown_on G2.out hb4)
      have HR := Lib.hid (hr2.out.far hb4 hp)
      clear hown4 hgrow hb4
      go_roundw
      case rel => exact ⟨k + 1, _, acc ++ [xx], e3, l3, by omega, by go_num, rfl, hac2, HO, HG, HR, HL3, HIT2⟩
      case measure => simp [intOf]; omega
    · obtain rfl : k = n := by omega
      obtain ⟨T', hT1, hT2⟩ := hit.out
      rw [Nat.sub_self, itr] at hT2
      simp only [Prod.mk.injEq] at hT2
      obtain ⟨rfl, rfl, rfl⟩ := hT2
      rw [List.append_nil] at hT1
      subst hT1
      clear hit C1 H2
      go_wp2_with fail
      go_ret
      exact ⟨_, rfl, by rw [hac.out]; exact hown.out, hgr.out, hrd.out⟩
theorem getListW_any {M : Int} (hM : 0 ≤ M ∧ M ≤ 512) (hbx : w.cell? ⟨b, 0, none⟩ = some (.pointer (some ⟨p, 0, none⟩))) (hbp : b ≠ p) (h : Rd w p l e) (hl : l.length ≤ 16384) :
    Calls Try.prog 69 #[.pointer (some ⟨p, 0, none⟩), .int .u32 M, .func (.func 64) #[] #[.pointer (some ⟨b, 0, none⟩)]] w (IsList w p 43 1 (getL stWord M.toNat e l).2.1.length (u32s (getL stWord M.toNat e l).2.1) (getL stWord M.toNat e l).1 (getL stWord M.toNat e l).2.2) := by
  obtain ⟨i0, hi, hz0, hz1, hz2⟩ := info_parts infoWord
  obtain ⟨hM0, hM1⟩ := hM
  obtain ⟨e1, n, l1, h1⟩ : ∃ e1 n l1, stVar M.toNat e l = (e1, n, l1) := ⟨_, _, _, rfl⟩
  have s1 := stVar_short M.toNat e l
  have n1 := stVar_bd (M := M.toNat) (e := e) (l := l)
  rw [h1] at s1 n1
  simp only at s1 n1
  unfold getL
  simp only [h1]
  obtain ⟨E, TS, LL, h2⟩ : ∃ E TS LL, itr stWord n e1 l1 = (E, TS, LL) := ⟨_, _, _, rfl⟩
  simp only [h2]
  have C1 := Lib.hid (rVar_st w p l l1 e e1 n M h ⟨hM0, by omega⟩ (by omega) h1)
  have hp := h.lt
  have hnI : (n : Int) ≤ 512 := by omega
  have H2 := Lib.hid h2
  have HBX := Lib.hid hbx
  have HL1 := Lib.hid (show l1.length ≤ 16384 by omega)
  clear h1 h2 s1 n1 h hl hbx
  go_enter Try.func69, Try.ntmps69
  go_wp2_with (go_at_call 85; (with_reducible refine C1.out.mono ?_); rintro e w1 ⟨rfl, hg1, hr1⟩)
  go_loopw [7, 11] (fun s i wr => ∃ (k : Nat) (q : Value) (acc : List (Nat)) (e2 : Nat) (l2 : List UInt8), k ≤ n ∧ i = .int .u32 (k : Int) ∧ q = s ∧ Hid (acc.length = k) ∧ Hid (wr.ownsRow w.heap.size 43 1 q k (u32s acc)) ∧ Hid (w.grownBy wr (some p)) ∧ Hid (Rd wr p l2 e2) ∧ Hid (l2.length ≤ 16384) ∧ Hid (∃ T', acc ++ T' = TS ∧ itr stWord (n - k) e2 l2 = (E, T', LL))) (fun _ i _ => n - (intOf i).toNat)
  case atStart => exact ⟨0, _, [], e1, l1, by omega, rfl, rfl, Lib.hid rfl, Lib.hid rows_none, Lib.hid hg1, Lib.hid hr1, HL1, ⟨TS, rfl, by rw [Nat.sub_zero]; exact H2.out⟩⟩
  case round =>
    obtain ⟨k, q, acc, e2, l2, hk, rfl, rfl, hac, hown, hgr, hrd, hle, hit⟩ := hrel
    by_cases hlt : k < n
    · have hlt' : (k : Int) < n := by omega
      have hl := hle.out
      have hr := hrd.out
      have hgb := cell_far hgr.out hbp HBX.out
      have C := Lib.hid (wordC_any hgb hr hl)
      have hsh := stWord_short e2 l2
      obtain ⟨T', hT1, hT2⟩ := hit.out
      rw [show n - k = (n - (k + 1)) + 1 by omega, itr] at hT2
      obtain ⟨e3, xx, l3, hx⟩ : ∃ e3 xx l3, stWord e2 l2 = (e3, xx, l3) := ⟨_, _, _, rfl⟩
      rw [hx] at C hsh
      simp only [hx, Prod.mk.injEq] at C hsh hT2
      have HIT2 := Lib.hid (show ∃ T'', (acc ++ [xx]) ++ T'' = TS ∧ itr stWord (n - (k + 1)) e3 l3 = (E, T'', LL) from ⟨_, by rw [← hT1, ← hT2.2.1, List.append_assoc]; rfl, by rw [← hT2.1, ← hT2.2.2]⟩)
      have HL3 := Lib.hid (show l3.length ≤ 16384 by omega)
      have hac2 := Lib.hid (show (acc ++ [xx]).length = k + 1 by rw [List.length_append, hac.out]; rfl)
      have happ := Lib.hid (u32s_append acc [xx])
      have hone : Hid ((∀ u ∈ u32s [xx], u.oneCell' = true) ∧ (u32s [xx]).length = 1 * 1) := ⟨u32s_one [xx], rfl⟩
      have hcx : Hid (∀ (u : World), ∀ j x, (u32s [xx])[j]? = some x → (u.alloc (.cells (u32s [xx]).toArray 43)).cell? ((⟨u.heap.size, 0, none⟩ : Addr).add j) = some x) := fun u => new_cells u _ _
      clear hT1 hT2 hx hsh hl hr hgb
      have hcl : Hid (u32s [xx] = [.int .u32 (xx : Int)]) := rfl
      generalize (xx : Int) = x at *
      rw [hcl.out] at hcx
      go_upto_region 4 with fail
      go_wp2_with (first | (go_at_call 64; (with_reducible refine C.out.mono ?_); rintro e w2 ⟨rfl, hg2, hr2⟩; have O2 := Lib.hid (owns_below (owns_turn hown.out hg2 hp) (below_new w2 (.cells #[.int .u32 x] 43))); have HCX := hcx.out w2; have G2 := Lib.hid (grown_trans hgr.out hg2); have hsz2 : w.heap.size ≤ (w2.alloc (.cells #[.int .u32 x] 43)).heap.size := (by have h1 := G2.out.size; simp; omega); have hr2 := Lib.hid hr2; clear hg2) | (at_builtin; refine wpList_append_own _ rfl _ _ 23 rfl w.heap.size 43 i0 (.int .u32 0) 1 4 Try.underlying23 hi hz0 hz1 hz2 rfl (by decide) _ k _ rfl O2.out ⟨w2.heap.size, 0, none⟩ 1 1 _ rfl (by rfl) HCX (by rw [← hcl.out]; exact hone.out.1) (by unfold maxLen; omega) (by omega) hsz2 ?_; intro v' w4 hown4 hgrow _))
      have hb4 : Below w.heap.size w2 w4 := ((Below.refl _ _).alloc G2.out.size (.cells #[.int .u32 x] 43)).grown hgrow hsz2 (fun g hg => (O2.out.lt g hg).1)
      have HO := Lib.hid (show w4.ownsRow w.heap.size 43 1 v' (k + 1) (u32s (acc ++ [xx])) by rw [happ.out, hcl.out]; exact hown4)
      have HG := Lib.hid (grown_on G2.out hb4)
      have HR := Lib.hid (hr2.out.far hb4 hp)
      clear hown4 hgrow hb4
      go_roundw
      case rel => exact ⟨k + 1, _, acc ++ [xx], e3, l3, by omega, by go_num, rfl, hac2, HO, HG, HR, HL3, HIT2⟩
      case measure => simp [intOf]; omega
    · obtain rfl : k = n := by omega
      obtain ⟨T', hT1, hT2⟩ := hit.out
      rw [Nat.sub_self, itr] at hT2
      simp only [Prod.mk.injEq] at hT2
      obtain ⟨rfl, rfl, rfl⟩ := hT2
      rw [List.append_nil] at hT1
      subst hT1
      clear hit C1 H2
      go_wp2_with fail
      go_ret
      exact ⟨_, rfl, by rw [hac.out]; exact hown.out, hgr.out, hrd.out⟩
theorem getListR_any {M : Int} (hM : 0 ≤ M ∧ M ≤ 512) (hbx : w.cell? ⟨b, 0, none⟩ = some (.pointer (some ⟨p, 0, none⟩))) (hbp : b ≠ p) (h : Rd w p l e) (hl : l.length ≤ 16384) :
    Calls Try.prog 70 #[.pointer (some ⟨p, 0, none⟩), .int .u32 M, .func (.func 66) #[] #[.pointer (some ⟨b, 0, none⟩)]] w (IsList w p 48 3 (getL stRel M.toNat e l).2.1.length (relC (getL stRel M.toNat e l).2.1) (getL stRel M.toNat e l).1 (getL stRel M.toNat e l).2.2) := by
  obtain ⟨i0, hi, hz0, hz1, hz2⟩ := info_parts infoRel
  obtain ⟨hM0, hM1⟩ := hM
  obtain ⟨e1, n, l1, h1⟩ : ∃ e1 n l1, stVar M.toNat e l = (e1, n, l1) := ⟨_, _, _, rfl⟩
  have s1 := stVar_short M.toNat e l
  have n1 := stVar_bd (M := M.toNat) (e := e) (l := l)
  rw [h1] at s1 n1
  simp only at s1 n1
  unfold getL
  simp only [h1]
  obtain ⟨E, TS, LL, h2⟩ : ∃ E TS LL, itr stRel n e1 l1 = (E, TS, LL) := ⟨_, _, _, rfl⟩
  simp only [h2]
  have C1 := Lib.hid (rVar_st w p l l1 e e1 n M h ⟨hM0, by omega⟩ (by omega) h1)
  have hp := h.lt
  have hnI : (n : Int) ≤ 512 := by omega
  have H2 := Lib.hid h2
  have HBX := Lib.hid hbx
  have HL1 := Lib.hid (show l1.length ≤ 16384 by omega)
  clear h1 h2 s1 n1 h hl hbx
  go_enter Try.func70, Try.ntmps70
  go_wp2_with (go_at_call 85; (with_reducible refine C1.out.mono ?_); rintro e w1 ⟨rfl, hg1, hr1⟩)
  go_loopw [7, 11] (fun s i wr => ∃ (k : Nat) (q : Value) (acc : List (Rl)) (e2 : Nat) (l2 : List UInt8), k ≤ n ∧ i = .int .u32 (k : Int) ∧ q = s ∧ Hid (acc.length = k) ∧ Hid (wr.ownsRow w.heap.size 48 3 q k (relC acc)) ∧ Hid (w.grownBy wr (some p)) ∧ Hid (Rd wr p l2 e2) ∧ Hid (l2.length ≤ 16384) ∧ Hid (∃ T', acc ++ T' = TS ∧ itr stRel (n - k) e2 l2 = (E, T', LL))) (fun _ i _ => n - (intOf i).toNat)
  case atStart => exact ⟨0, _, [], e1, l1, by omega, rfl, rfl, Lib.hid rfl, Lib.hid rows_none, Lib.hid hg1, Lib.hid hr1, HL1, ⟨TS, rfl, by rw [Nat.sub_zero]; exact H2.out⟩⟩
  case round =>
    obtain ⟨k, q, acc, e2, l2, hk, rfl, rfl, hac, hown, hgr, hrd, hle, hit⟩ := hrel
    by_cases hlt : k < n
    · have hlt' : (k : Int) < n := by omega
      have hl := hle.out
      have hr := hrd.out
      have hgb := cell_far hgr.out hbp HBX.out
      have C := Lib.hid (relC_any hgb hbp hr hl)
      have hsh := stRel_short e2 l2
      obtain ⟨T', hT1, hT2⟩ := hit.out
      rw [show n - k = (n - (k + 1)) + 1 by omega, itr] at hT2
      obtain ⟨e3, xx, l3, hx⟩ : ∃ e3 xx l3, stRel e2 l2 = (e3, xx, l3) := ⟨_, _, _, rfl⟩
      rw [hx] at C hsh
      simp only [hx, Prod.mk.injEq] at C hsh hT2
      have HIT2 := Lib.hid (show ∃ T'', (acc ++ [xx]) ++ T'' = TS ∧ itr stRel (n - (k + 1)) e3 l3 = (E, T'', LL) from ⟨_, by rw [← hT1, ← hT2.2.1, List.append_assoc]; rfl, by rw [← hT2.1, ← hT2.2.2]⟩)
      have HL3 := Lib.hid (show l3.length ≤ 16384 by omega)
      have hac2 := Lib.hid (show (acc ++ [xx]).length = k + 1 by rw [List.length_append, hac.out]; rfl)
      have happ := Lib.hid (relC_append acc [xx])
      have hone : Hid ((∀ u ∈ relC [xx], u.oneCell' = true) ∧ (relC [xx]).length = 1 * 3) := ⟨relC_one [xx], rfl⟩
      have hcx : Hid (∀ (u : World), ∀ j x, (relC [xx])[j]? = some x → (u.alloc (.cells (relC [xx]).toArray 48)).cell? ((⟨u.heap.size, 0, none⟩ : Addr).add j) = some x) := fun u => new_cells u _ _
      clear hT1 hT2 hx hsh hl hr hgb
      have hcl : Hid (relC [xx] = [.int .u8 (xx.kind : Int), .int .u16 (xx.at_ : Int), .int .u16 (xx.wh : Int)]) := rfl
      simp only [relV] at C
      generalize (xx.kind : Int) = x at *
      generalize (xx.at_ : Int) = y at *
      generalize (xx.wh : Int) = z at *
      rw [hcl.out] at hcx
      go_upto_region 4 with fail
      go_wp2_with (first | (go_at_call 66; (with_reducible refine C.out.mono ?_); rintro e w2 ⟨rfl, hg2, hr2⟩; have O2 := Lib.hid (owns_below (owns_turn hown.out hg2 hp) (below_new w2 (.cells #[.int .u8 x, .int .u16 y, .int .u16 z] 48))); have HCX := hcx.out w2; have G2 := Lib.hid (grown_trans hgr.out hg2); have hsz2 : w.heap.size ≤ (w2.alloc (.cells #[.int .u8 x, .int .u16 y, .int .u16 z] 48)).heap.size := (by have h1 := G2.out.size; simp; omega); have hr2 := Lib.hid hr2; clear hg2) | (at_builtin; refine wpList_append_own _ rfl _ _ 24 rfl w.heap.size 48 i0 (.agg #[.int .u8 0, .int .u16 0, .int .u16 0]) 3 6 Try.underlying24 hi hz0 hz1 hz2 rfl (by decide) _ k _ rfl O2.out ⟨w2.heap.size, 0, none⟩ 1 1 _ rfl (by rfl) HCX (by rw [← hcl.out]; exact hone.out.1) (by unfold maxLen; omega) (by omega) hsz2 ?_; intro v' w4 hown4 hgrow _))
      have hb4 : Below w.heap.size w2 w4 := ((Below.refl _ _).alloc G2.out.size (.cells #[.int .u8 x, .int .u16 y, .int .u16 z] 48)).grown hgrow hsz2 (fun g hg => (O2.out.lt g hg).1)
      have HO := Lib.hid (show w4.ownsRow w.heap.size 48 3 v' (k + 1) (relC (acc ++ [xx])) by rw [happ.out, hcl.out]; exact hown4)
      have HG := Lib.hid (grown_on G2.out hb4)
      have HR := Lib.hid (hr2.out.far hb4 hp)
      clear hown4 hgrow hb4
      go_roundw
      case rel => exact ⟨k + 1, _, acc ++ [xx], e3, l3, by omega, by go_num, rfl, hac2, HO, HG, HR, HL3, HIT2⟩
      case measure => simp [intOf]; omega
    · obtain rfl : k = n := by omega
      obtain ⟨T', hT1, hT2⟩ := hit.out
      rw [Nat.sub_self, itr] at hT2
      simp only [Prod.mk.injEq] at hT2
      obtain ⟨rfl, rfl, rfl⟩ := hT2
      rw [List.append_nil] at hT1
      subst hT1
      clear hit C1 H2
      go_wp2_with fail
      go_ret
      exact ⟨_, rfl, by rw [hac.out]; exact hown.out, hgr.out, hrd.out⟩
end
end Go.Proofs.Ytdlinlkdielmkaa.OR

