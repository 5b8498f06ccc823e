/-
  The reference of layer 14: looks. Nothing here is a statement of the seed.
-/
import Derived.Test.YtijcojidfallkaaGraphRow
import Derived.Deep.RegionHeld3
import Derived.Deep.CutRange
set_option linter.unusedSimpArgs false
set_option linter.unusedVariables false
namespace Go.Proofs.Ytijcojidfallkaa.GF
open Go.RowKit WM NR OM OR GM GR
set_option maxHeartbeats 4000000
set_option maxRecDepth 10000
theorem bs_toList (l : List UInt8) : (bs l).toList = l := by rw [Lib.toList_data]; rfl
theorem ret_int {a b : Int} (h : a = b) : Ending.returned (.int .i64 a) = .returned (.int .i64 b) := by rw [h]
theorem ret_bool {a b : Bool} (h : a = b) : Ending.returned (.bool a) = .returned (.bool b) := by rw [h]
theorem take_succ_getD {α : Type} (l : List α) (d : α) (k : Nat) (h : k < l.length) : l.take (k + 1) = l.take k ++ [l.getD k d] := by
  rw [List.take_add_one, List.getElem?_eq_getElem h, List.getD_eq_getElem?_getD, List.getElem?_eq_getElem h]
  rfl
theorem mem_take_succ {α : Type} (l : List α) (d : α) (k : Nat) (h : k < l.length) (s : α) : s ∈ l.take (k + 1) ↔ s ∈ l.take k ∨ s = l.getD k d := by
  rw [take_succ_getD l d k h, List.mem_append, List.mem_singleton]
theorem getD_memT {l : List (List UInt8)} {k : Nat} (h : k < l.length) : l.getD k [] ∈ l := by
  rw [List.getD_eq_getElem?_getD, List.getElem?_eq_getElem h]
  exact List.getElem_mem h
/-- stands a text among others -/
theorem refIn_any {w : World} {a : Option Addr} {n c : Nat} {l : List (List UInt8)} (h : Reads (· < w.heap.size) w (.slice a n c) (strs l)) (s : List UInt8) :
    Calls Try.prog 24 #[.slice a n c, .string (bs s)] w fun e w' => e = .returned (.bool (decide (s ∈ l))) ∧ w' = w := by
  obtain ⟨n1, m1, m2⟩ := reads_len h
  rw [strs_len] at n1
  unfold maxLen at m2
  have hn : (n : Int) ≤ 9223372036854775807 := by omega
  have HE := Lib.hid h
  have HL := Lib.hid n1
  obtain ⟨R, hR⟩ : ∃ R, R = decide (s ∈ l) := ⟨_, rfl⟩
  rw [← hR]
  have HR := Lib.hid hR
  clear hR h n1
  have q2 : (n : Int) ≤ c := by omega
  go_enter Try.func24, Try.ntmps24
  go_wp2_with fail
  go_loopw [5] (fun i wr => ∃ k : Nat, k ≤ n ∧ i = .int .i64 (k : Int) ∧ Hid (s ∉ l.take k) ∧ wr = w) (fun i _ => n - (intOf i).toNat)
  case atStart => exact ⟨0, by omega, rfl, Lib.hid (by simp), rfl⟩
  case round =>
    obtain ⟨k, hk, rfl, hp, rfl⟩ := hrel
    by_cases hlt : k < n
    · have hlt' : (k : Int) < n := by omega
      have kl : k < l.length := by rw [HL.out]; exact hlt
      obtain ⟨g, off, rfl, q1, e1⟩ := reads_at HE.out (Below.refl _ _) hlt
      rw [strs_at kl] at e1
      by_cases e : l.getD k [] = s
      · have hh := Lib.hid (show R = true by rw [HR.out]; exact decide_eq_true (by rw [← e]; exact getD_memT kl))
        rw [e] at e1
        have exx : ((bs s).toList == (bs s).toList) = true := by simp
        clear hp e HR HE kl
        generalize bs s = x at *
        go_wp2_with fail
        go_ret
        exact ⟨ret_bool hh.out.symm, rfl⟩
      · have hp2 := Lib.hid (show s ∉ l.take (k + 1) by rw [mem_take_succ l [] k kl]; rintro (h | h); exact hp.out h; exact e h.symm)
        have exy : ((bs (l.getD k [])).toList == (bs s).toList) = false := by rw [bs_toList, bs_toList]; simpa using e
        clear hp e HR HE kl
        generalize bs (l.getD k []) = y at *
        generalize bs s = x at *
        go_wp2_with fail
        go_roundw
        case rel => exact ⟨k + 1, by omega, by go_num, hp2, by trivial⟩
        case measure => simp [intOf]; omega
    · obtain rfl : k = n := by omega
      have hh := Lib.hid (show R = false by rw [HR.out]; have := hp.out; rw [List.take_of_length_le (by rw [HL.out]; omega)] at this; exact decide_eq_false this)
      clear hp HR HE
      go_wp2_with fail
      go_ret
      exact ⟨ret_bool hh.out.symm, rfl⟩
section
variable {w : World} {la : Option Addr} {ln lc : Nat} {l : List Nr}
theorem refPlace_any (h : RdG (· < w.heap.size) w la ln lc l) (s : List UInt8) :
    Calls Try.prog 49 #[gV la ln lc, .string (bs s)] w fun e w' => e = .returned (.int .i64 (plc (ndL l) s)) ∧ Below w.heap.size w w' := by
  obtain ⟨ll, q2, lm⟩ := h.len
  unfold maxLen at lm
  have hn : (ln : Int) ≤ 9223372036854775807 := by omega
  have q2 : (ln : Int) ≤ lc := by omega
  have HX := Lib.hid (Whole.new w 29 (gC la ln lc))
  have HB := Lib.hid (below_new w (.cells (gC la ln lc) 29))
  have HE := Lib.hid h
  have HL := Lib.hid ll
  obtain ⟨R, hR⟩ : ∃ R, R = plc (ndL l) s := ⟨_, rfl⟩
  rw [← hR]
  have HR := Lib.hid hR
  clear hR h ll lm
  go_enter Try.func49, Try.ntmps49
  go_upto_region 1 with fail
  generalize w.alloc (.cells (gC la ln lc) 29) = W at *
  go_wp2_with fail
  go_loopw [5] (fun i wr => ∃ k : Nat, k ≤ ln ∧ i = .int .i64 (k : Int) ∧ Hid (∀ j, j < k → (l.getD j r0).nm ≠ s) ∧ Below W.heap.size W wr) (fun i _ => ln - (intOf i).toNat)
  case atStart => exact ⟨0, by omega, rfl, Lib.hid (fun j hj => by omega), Below.refl _ _⟩
  case round =>
    obtain ⟨k, hk, rfl, hp, hbl⟩ := hrel
    have X := HX.out.belowS hbl
    have HB1 := Lib.hid (HB.out.trans (hbl.mono HB.out.size))
    have c0 := X.cell 0
    have c6 := X.lt
    clear X
    by_cases hlt : k < ln
    · have hlt' : (k : Int) < ln := by omega
      obtain ⟨g, off, rfl, q1, e1, e2⟩ := HE.out.at HB1.out hlt
      by_cases e : (l.getD k r0).nm = s
      · have hh := Lib.hid (HR.out.trans (plc_yes (ndL l) s k (by rw [List.length_map, HL.out]; exact hlt) (by rw [getD_nd]; exact e) (fun j hj => by rw [getD_nd]; exact hp.out j hj)))
        rw [e] at e1
        have exx : ((bs s).toList == (bs s).toList) = true := by simp
        clear hp e HR HE e2
        generalize bs s = x at *
        go_wp2_with fail
        go_ret
        exact ⟨ret_int hh.out.symm, HB1.out⟩
      · have hp2 := Lib.hid (fun j (hj : j < k + 1) => if h : j < k then hp.out j h else by rw [show j = k by omega]; exact e)
        have exy : ((bs (l.getD k r0).nm).toList == (bs s).toList) = false := by rw [bs_toList, bs_toList]; simpa using e
        clear hp e HR HE e2
        generalize bs (l.getD k r0).nm = y at *
        generalize bs s = x at *
        go_wp2_with fail
        go_roundw
        case rel => exact ⟨k + 1, by omega, by go_num, hp2, hbl⟩
        case measure => simp [intOf]; omega
    · obtain rfl : k = ln := by omega
      have hh := Lib.hid (HR.out.trans (plc_no (ndL l) s (by rw [List.length_map, HL.out]; exact fun j hj => by rw [getD_nd]; exact hp.out j hj)))
      clear hp HR HE
      go_wp2_with fail
      go_ret
      exact ⟨ret_int hh.out.symm, HB1.out⟩
theorem refHas_any (h : RdG (· < w.heap.size) w la ln lc l) (s : List UInt8) :
    Calls Try.prog 31 #[gV la ln lc, .string (bs s)] w fun e w' => e = .returned (.bool (hasM (ndL l) s)) ∧ Below w.heap.size w w' := by
  have HB := Lib.hid (below_new w (.cells (gC la ln lc) 29))
  have C := Lib.hid (fun u (hu : Below w.heap.size w u) => refPlace_any (h.go hu hu.size) s)
  have hX := Whole.new w 29 (gC la ln lc)
  have c0 := hX.cell 0
  have hp1 := plc_ge (ndL l) s
  have hp2 := plc_lt (ndL l) s
  have hl := h.len
  unfold maxLen at hl
  have hp3 : plc (ndL l) s ≤ 9223372036854775807 := by rw [List.length_map] at hp2; omega
  unfold hasM
  generalize plc (ndL l) s = p at *
  clear hX hl hp2 h
  go_enter Try.func31, Try.ntmps31
  go_wp2_with (go_at_call 49; (with_reducible refine (C.out _ HB.out).mono ?_); rintro e w1 ⟨rfl, h1⟩)
  go_ret
  exact ⟨ret_bool (by simp), HB.out.trans (h1.mono HB.out.size)⟩
theorem refDeps_any (h : RdG (· < w.heap.size) w la ln lc l) (s : List UInt8) :
    Calls Try.prog 29 #[gV la ln lc, .string (bs s)] w fun e w' => ∃ da dn dc, e = .returned (.slice da dn dc) ∧ Reads (· < w.heap.size) w (.slice da dn dc) (strs (depsM (ndL l) s)) ∧ Below w.heap.size w w' := by
  have HB := Lib.hid (below_new w (.cells (gC la ln lc) 29))
  have C := Lib.hid (fun u (hu : Below w.heap.size w u) => refPlace_any (h.go hu hu.size) s)
  have hX := Whole.new w 29 (gC la ln lc)
  have HX := Lib.hid hX
  have c0 := hX.cell 0
  have hp1 := plc_ge (ndL l) s
  have hp2 := plc_lt (ndL l) s
  obtain ⟨ll, hl2, hl⟩ := h.len
  unfold maxLen at hl
  rw [List.length_map] at hp2
  have hp3 : plc (ndL l) s ≤ 9223372036854775807 := by omega
  have hH := h
  have HD := Lib.hid (show plc (ndL l) s < 0 → depsM (ndL l) s = [] from fun hp => if_pos hp)
  have HD2 := Lib.hid (show 0 ≤ plc (ndL l) s → depsM (ndL l) s = (l.getD (plc (ndL l) s).toNat r0).ds from fun hp => by unfold depsM; rw [if_neg (by omega), getD_nd])
  obtain ⟨D, hD⟩ : ∃ D, D = depsM (ndL l) s := ⟨_, rfl⟩
  rw [← hD] at HD HD2 ⊢
  clear hD
  generalize plc (ndL l) s = p at *
  have HE := Lib.hid h
  have HL := Lib.hid ll
  have hln : (ln : Int) ≤ 9223372036854775807 := by omega
  by_cases hp : p < 0
  · have hd := Lib.hid (HD.out hp)
    clear hX hl hp2 h hH HD HD2
    go_enter Try.func29, Try.ntmps29
    go_wp2_with (go_at_call 49; (with_reducible refine (C.out _ HB.out).mono ?_); rintro e w1 ⟨rfl, h1⟩)
    go_ret
    exact ⟨none, 0, 0, rfl, by rw [hd.out]; exact Reads.nil _ _, HB.out.trans (h1.mono HB.out.size)⟩
  · obtain ⟨k, rfl⟩ : ∃ k : Nat, p = (k : Int) := ⟨p.toNat, by omega⟩
    have hk : k < ln := by omega
    have hk' : (k : Int) < ln := by omega
    have hd := Lib.hid (HD2.out (by omega))
    have hm := getD_mem_nr (l := l) (k := k) (by omega)
    have ok := Lib.hid (h.ok _ hm)
    have q2 : (ln : Int) ≤ lc := by omega
    obtain ⟨g, off, rfl, q1, e1, e2⟩ := h.at (below_new w (.cells (gC la ln lc) 29)) hk
    have hA := Lib.hid (fun (u : World) (hu : Below (w.alloc (.cells (gC (some ⟨g, off, none⟩) ln lc) 29)).heap.size (w.alloc (.cells (gC (some ⟨g, off, none⟩) ln lc) 29)) u) => show u.cell? ⟨w.heap.size, 0, none⟩ = some (.slice (some ⟨g, off, none⟩) ln lc) ∧ u.cell? ⟨g, off + k * 2 + 1, none⟩ = some (.slice (l.getD k r0).da (l.getD k r0).dn (l.getD k r0).dc) from
      ⟨(HX.out.belowS hu).cell 0, (hu.cell (p := ⟨g, off + k * 2 + 1, none⟩) (World.block_lt_of_cell? _ _ e2)).trans e2⟩)
    have hkk : ((k : Int)).toNat = k := by omega
    rw [hkk] at hd
    clear hX hl hp2 h hH HD HD2 e1 e2 hm hp3 hp1 hkk HE HX
    generalize l.getD k r0 = x at *
    go_enter Try.func29, Try.ntmps29
    go_wp2_with (go_at_call 49; (with_reducible refine (C.out _ HB.out).mono ?_); rintro e w1 ⟨rfl, h1⟩; obtain ⟨k0, k1⟩ := hA.out _ h1)
    go_ret
    exact ⟨_, _, _, rfl, by rw [hd.out]; exact ok.out, HB.out.trans (h1.mono HB.out.size)⟩
end
end Go.Proofs.Ytijcojidfallkaa.GF
