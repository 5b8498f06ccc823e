/-
  Words, texts and lists of words laid, of package wire and of the reference for layer 3; copies.
-/
import Derived.Test.YtdlinlkdielmkaaWireFn
import Derived.Lib.SliceRun
set_option linter.unusedSimpArgs false
set_option linter.unusedVariables false
namespace Go.Proofs.Ytdlinlkdielmkaa.NR
open Go.RowKit WM

theorem refWord_any (n : Nat) (w : World) (hn : n < 4294967296) :
    Calls Try.prog 57 #[.int .u32 (n : Int)] w (IsBytes w.heap.size (wordL n) w) := by
  obtain ⟨c0, H0, L0⟩ : ∃ c, Hid (c = UInt8.ofNat n) ∧ (n : Int) % 256 = (c.toNat : Int) := ⟨_, Lib.hid rfl, by rw [toNat_ofNat]; omega⟩
  obtain ⟨c1, H1, L1⟩ : ∃ c, Hid (c = UInt8.ofNat (n / 256)) ∧ (n : Int) / 256 % 256 = (c.toNat : Int) := ⟨_, Lib.hid rfl, by rw [toNat_ofNat]; omega⟩
  obtain ⟨c2, H2, L2⟩ : ∃ c, Hid (c = UInt8.ofNat (n / 65536)) ∧ (n : Int) / 65536 % 256 = (c.toNat : Int) := ⟨_, Lib.hid rfl, by rw [toNat_ofNat]; omega⟩
  obtain ⟨c3, H3, L3⟩ : ∃ c, Hid (c = UInt8.ofNat (n / 16777216)) ∧ (n : Int) / 16777216 = (c.toNat : Int) := ⟨_, Lib.hid rfl, by rw [toNat_ofNat]; omega⟩
  go_enter Try.func57, Try.ntmps57
  go_wp2_with fail
  go_ret
  have e : wordL n = [c0, c1, c2, c3] := by unfold wordL; rw [H0.out, H1.out, H2.out, H3.out]
  rw [e]
  exact ⟨_, rfl, owns_block (heap_alloc_new w _) (Nat.le_refl _) 4 rfl (by simp [maxLen]), below_new w _⟩
theorem text_len (s : ByteArray) : ((s.size : Int) % 4294967296).toNat = s.data.toList.length % 4294967296 := by rw [size_list]; omega
theorem text_any (s : ByteArray) (w : World) (hs : s.size ≤ 140737488351232) :
    Calls Try.prog 22 #[.string s] w (IsBytes w.heap.size (textL s.data.toList) w) := by
  obtain ⟨i0, hi, hz0, hz1, hz2⟩ := info_parts infoByte
  have C := Lib.hid (var_int ((s.size : Int) % 4294967296) w (by omega))
  have hl := varL_five (s.data.toList.length % 4294967296) (by omega)
  have ht := Lib.hid (text_len s)
  generalize hL : varL (s.data.toList.length % 4294967296) = L at hl
  have HL := Lib.hid hL
  clear hL
  go_enter Try.func22, Try.ntmps22
  go_wp2_with fail
  refine C.out.mono ?_
  rintro e w1 ⟨v, rfl, hown, hb⟩
  rw [ht.out, HL.out] at hown
  have hnm : L.length + s.size ≤ maxLen := by unfold maxLen; omega
  have hb1 := hb.size
  go_wp2_with (at_builtin; refine Lib.wpList_append_own_string _ rfl _ _ 30 9 rfl w.heap.size 5 i0 Try.underlying30 Try.underlying9 hi hz0 hz1 hz2 _ _ _ rfl hown _ rfl hnm (by omega) hb1 ?_)
  intro v' w2 hown2 hgrow _
  go_wp2_with fail
  go_ret
  refine ⟨_, rfl, ?_, hb.grown hgrow hb1 (fun g hg => (hown.lt g hg).1)⟩
  have e : textL s.data.toList = L ++ s.data.toList := by unfold textL; rw [HL.out]
  rw [e, List.length_append, u8s_append, size_list]
  exact hown2
theorem refText_any (s : ByteArray) (w : World) (hs : s.size ≤ 140737488351232) :
    Calls Try.prog 27 #[.string s] w (IsBytes w.heap.size (textL s.data.toList) w) := by
  obtain ⟨i0, hi, hz0, hz1, hz2⟩ := info_parts infoByte
  have C := Lib.hid (refVar_int ((s.size : Int) % 4294967296) w (by omega))
  have hl := varL_five (s.data.toList.length % 4294967296) (by omega)
  have ht := Lib.hid (text_len s)
  generalize hL : varL (s.data.toList.length % 4294967296) = L at hl
  have HL := Lib.hid hL
  clear hL
  go_enter Try.func27, Try.ntmps27
  go_wp2_with fail
  refine C.out.mono ?_
  rintro e w1 ⟨v, rfl, hown, hb⟩
  rw [ht.out, HL.out] at hown
  have hnm : L.length + s.size ≤ maxLen := by unfold maxLen; omega
  have hb1 := hb.size
  go_wp2_with (at_builtin; refine Lib.wpList_append_own_string _ rfl _ _ 30 9 rfl w.heap.size 5 i0 Try.underlying30 Try.underlying9 hi hz0 hz1 hz2 _ _ _ rfl hown _ rfl hnm (by omega) hb1 ?_)
  intro v' w2 hown2 hgrow _
  go_wp2_with fail
  go_ret
  refine ⟨_, rfl, ?_, hb.grown hgrow hb1 (fun g hg => (hown.lt g hg).1)⟩
  have e : textL s.data.toList = L ++ s.data.toList := by unfold textL; rw [HL.out]
  rw [e, List.length_append, u8s_append, size_list]
  exact hown2
/-- bytes that are owned, to be appended -/
theorem owns_parts {w : World} {B : Nat} {e : TypeId} {v : Value} {n : Nat} {xs : List Value} (h : w.ownsRow B e 1 v n xs) (h0 : xs ≠ []) :
    ∃ g cap, v = .slice (some ⟨g, 0, none⟩) n cap ∧ (∀ j u, xs[j]? = some u → w.cell? ((⟨g, 0, none⟩ : Addr).add j) = some u) ∧ B ≤ g ∧ g < w.heap.size := by
  have hl : xs.length = n := by simpa using h.1
  rcases h.2 with ⟨rfl, hn⟩ | ⟨g, cap, cur, rfl, hg, hcell, hcap, hcm, hsz, hcur⟩
  · exact absurd (List.length_eq_zero_iff.1 (by omega)) h0
  · exact ⟨g, cap, rfl, h.cells rfl, hg, lt_of_block hcell⟩
theorem many_step (l : List Nat) (k : Nat) (h : k < l.length) : manyL (l.take (k + 1)) = manyL (l.take k) ++ wordL l[k] := by
  rw [List.take_succ_eq_append_getElem h, manyL_append]
  simp [manyL]
theorem words_any (l : List Nat) (v : Value) (w : World) (hr : Reads (· < w.heap.size) w v (u32s l)) (hl : l.length * 4 ≤ 140737488351232) (hw : ∀ x ∈ l, x < 4294967296) :
    Calls Try.prog 24 #[v] w (IsBytes w.heap.size (wordsL l) w) := by
  obtain ⟨i0, hi, hz0, hz1, hz2⟩ := info_parts infoByte
  obtain ⟨a, cap, rfl, hcap, hcm⟩ := hr.shape
  rw [u32s_len] at *
  unfold maxLen at hcm
  have C := Lib.hid (var_int ((l.length : Int) % 4294967296) w (by omega))
  have L5 := varL_five (l.length % 4294967296) (by omega)
  generalize hL : varL (l.length % 4294967296) = L at L5
  have HL := Lib.hid hL
  clear hL
  have HR := Lib.hid hr
  clear hr
  have HW := Lib.hid hw
  clear hw
  have e0 : Hid (((l.length : Int) % 4294967296).toNat = l.length % 4294967296) := by show _ = _; omega
  generalize hn : l.length = n at *
  have HN := Lib.hid hn
  clear hn
  go_enter Try.func24, Try.ntmps24
  go_wp2_with fail
  refine C.out.mono ?_
  rintro e w1 ⟨v1, rfl, hown1, hb1⟩
  rw [e0.out, HL.out] at hown1
  go_wp2_with fail
  go_loopw [3, 12] (fun s i wr => ∃ (k : Nat) (q : Value), k ≤ n ∧ i = .int .i64 (k : Int) ∧ q = s ∧ wr.ownsRow w.heap.size 5 1 q (L.length + 4 * k) (u8s (L ++ manyL (l.take k))) ∧ Below w.heap.size w wr) (fun _ i _ => n - (intOf i).toNat)
  case atStart => exact ⟨0, _, by omega, rfl, rfl, by simpa [manyL] using hown1, hb1⟩
  case round =>
    obtain ⟨k, q, hk, rfl, rfl, hown, hb⟩ := hrel
    have hbs := hb.size
    by_cases hlt : k < n
    · have hlt' : (k : Int) < n := by omega
      have hkl : k < l.length := by rw [HN.out]; exact hlt
      have hx : l[k] < 4294967296 := HW.out _ (List.getElem_mem hkl)
      have HS := Lib.hid (many_step l k hkl)
      obtain ⟨g, off, cap', hv, hg, hcap', hcm', hc⟩ := (HR.out.below hb).cells (by intro h; have := congrArg List.length h; simp [u32s] at this; subst this; simp at hkl)
      simp only [Value.slice.injEq, true_and, u32s_len] at hv
      obtain ⟨rfl, hv2, rfl⟩ := hv
      have hck := hc k (by rw [u32s_len]; exact hkl)
      rw [u32s_at l k hkl] at hck
      clear hc hv2
      generalize l[k] = x at *
      have CW := Lib.hid (word_any x wr hx)
      have hnm : L.length + 4 * k + 4 ≤ maxLen := by unfold maxLen; omega
      have hnb : (L.length + 4 * k + 4) * 1 ≤ 140737488355328 := by omega
      go_wp2_with fail
      refine CW.out.mono ?_
      rintro e w2 ⟨v2, rfl, hown2, hb2⟩
      obtain ⟨g2, cap2, rfl, hcells, hg2, hg2'⟩ := owns_parts hown2 (by simp [u8s, wordL])
      have hown3 := owns_below hown hb2
      have hbb := hb2.size
      go_wp2_with (at_builtin; refine wpList_append_own _ rfl _ _ 30 rfl w.heap.size 5 i0 (.int .u8 0) 1 1 Try.underlying30 hi hz0 hz1 hz2 rfl (by decide) _ _ _ rfl hown3 ⟨g2, 0, none⟩ 4 cap2 (u8s (wordL x)) rfl rfl hcells (u8s_one _) hnm hnb (by omega) ?_)
      intro v' w3 hown4 hgrow _
      go_wp2_with fail
      go_roundw
      case rel =>
        refine ⟨k + 1, _, by omega, by go_num, rfl, ?_, (below_of hb hb2).grown hgrow (by omega) (fun g hg => (hown3.lt g hg).1)⟩
        rw [HS.out, ← List.append_assoc, u8s_append, show L.length + 4 * (k + 1) = L.length + 4 * k + 4 by omega]
        exact hown4
      case measure => simp [intOf]; omega
    · have hn : ¬ (k : Int) < n := by omega
      go_wp2_with fail
      go_ret
      have e : wordsL l = L ++ manyL (l.take k) := by
        unfold wordsL
        rw [HN.out, HL.out, List.take_of_length_le (by rw [HN.out]; omega)]
      refine ⟨_, rfl, ?_, hb⟩
      rw [e]
      have e2 : (L ++ manyL (l.take k)).length = L.length + 4 * k := by rw [List.length_append, manyL_length, List.length_take, HN.out, Nat.min_eq_left hk]
      rw [e2]
      exact hown
theorem refWords_any (l : List Nat) (v : Value) (w : World) (hr : Reads (· < w.heap.size) w v (u32s l)) (hl : l.length * 4 ≤ 140737488351232) (hw : ∀ x ∈ l, x < 4294967296) :
    Calls Try.prog 29 #[v] w (IsBytes w.heap.size (wordsL l) w) := by
  obtain ⟨i0, hi, hz0, hz1, hz2⟩ := info_parts infoByte
  obtain ⟨a, cap, rfl, hcap, hcm⟩ := hr.shape
  rw [u32s_len] at *
  unfold maxLen at hcm
  have C := Lib.hid (refVar_int ((l.length : Int) % 4294967296) w (by omega))
  have L5 := varL_five (l.length % 4294967296) (by omega)
  generalize hL : varL (l.length % 4294967296) = L at L5
  have HL := Lib.hid hL
  clear hL
  have HR := Lib.hid hr
  clear hr
  have HW := Lib.hid hw
  clear hw
  have e0 : Hid (((l.length : Int) % 4294967296).toNat = l.length % 4294967296) := by show _ = _; omega
  generalize hn : l.length = n at *
  have HN := Lib.hid hn
  clear hn
  go_enter Try.func29, Try.ntmps29
  go_wp2_with fail
  refine C.out.mono ?_
  rintro e w1 ⟨v1, rfl, hown1, hb1⟩
  rw [e0.out, HL.out] at hown1
  go_wp2_with fail
  go_loopw [3, 4] (fun s i wr => ∃ (k : Nat) (q : Value), k ≤ n ∧ i = .int .i64 (k : Int) ∧ q = s ∧ wr.ownsRow w.heap.size 5 1 q (L.length + 4 * k) (u8s (L ++ manyL (l.take k))) ∧ Below w.heap.size w wr) (fun _ i _ => n - (intOf i).toNat)
  case atStart => exact ⟨0, _, by omega, rfl, rfl, by simpa [manyL] using hown1, hb1⟩
  case round =>
    obtain ⟨k, q, hk, rfl, rfl, hown, hb⟩ := hrel
    have hbs := hb.size
    by_cases hlt : k < n
    · have hlt' : (k : Int) < n := by omega
      have hkl : k < l.length := by rw [HN.out]; exact hlt
      have hx : l[k] < 4294967296 := HW.out _ (List.getElem_mem hkl)
      have HS := Lib.hid (many_step l k hkl)
      obtain ⟨g, off, cap', hv, hg, hcap', hcm', hc⟩ := (HR.out.below hb).cells (by intro h; have := congrArg List.length h; simp [u32s] at this; subst this; simp at hkl)
      simp only [Value.slice.injEq, true_and, u32s_len] at hv
      obtain ⟨rfl, hv2, rfl⟩ := hv
      have hck := hc k (by rw [u32s_len]; exact hkl)
      rw [u32s_at l k hkl] at hck
      clear hc hv2
      generalize l[k] = x at *
      have CW := Lib.hid (refWord_any x wr hx)
      have hnm : L.length + 4 * k + 4 ≤ maxLen := by unfold maxLen; omega
      have hnb : (L.length + 4 * k + 4) * 1 ≤ 140737488355328 := by omega
      go_wp2_with fail
      refine CW.out.mono ?_
      rintro e w2 ⟨v2, rfl, hown2, hb2⟩
      obtain ⟨g2, cap2, rfl, hcells, hg2, hg2'⟩ := owns_parts hown2 (by simp [u8s, wordL])
      have hown3 := owns_below hown hb2
      have hbb := hb2.size
      go_wp2_with (at_builtin; refine wpList_append_own _ rfl _ _ 30 rfl w.heap.size 5 i0 (.int .u8 0) 1 1 Try.underlying30 hi hz0 hz1 hz2 rfl (by decide) _ _ _ rfl hown3 ⟨g2, 0, none⟩ 4 cap2 (u8s (wordL x)) rfl rfl hcells (u8s_one _) hnm hnb (by omega) ?_)
      intro v' w3 hown4 hgrow _
      go_wp2_with fail
      go_roundw
      case rel =>
        refine ⟨k + 1, _, by omega, by go_num, rfl, ?_, (below_of hb hb2).grown hgrow (by omega) (fun g hg => (hown3.lt g hg).1)⟩
        rw [HS.out, ← List.append_assoc, u8s_append, show L.length + 4 * (k + 1) = L.length + 4 * k + 4 by omega]
        exact hown4
      case measure => simp [intOf]; omega
    · have hn : ¬ (k : Int) < n := by omega
      go_wp2_with fail
      go_ret
      have e : wordsL l = L ++ manyL (l.take k) := by
        unfold wordsL
        rw [HN.out, HL.out, List.take_of_length_le (by rw [HN.out]; omega)]
      refine ⟨_, rfl, ?_, hb⟩
      rw [e]
      have e2 : (L ++ manyL (l.take k)).length = L.length + 4 * k := by rw [List.length_append, manyL_length, List.length_take, HN.out, Nat.min_eq_left hk]
      rw [e2]
      exact hown
theorem clone_any (l : List UInt8) (v : Value) (w : World) (hr : Reads (· < w.heap.size) w v (u8s l)) (hl : l.length ≤ 140737488355328) :
    Calls Try.prog 61 #[v] w (IsBytes w.heap.size l w) := by
  obtain ⟨i0, hi, hz0, hz1, hz2⟩ := info_parts infoByte
  have hr' := Lib.hid hr
  obtain ⟨a, cap, rfl, h1, h2, h3, h4⟩ := hr
  rw [u8s_len] at *
  unfold maxLen at h2
  have hnil := fun (u : World) (n c : Nat) => Lib.run_eql_slice_nil (P := Try.prog) u 30 5 a n c 0 0 Try.underlying30
  cases a with
  | none =>
    have hc0 := h3 rfl
    subst hc0
    have hl0 : l = [] := List.length_eq_zero_iff.1 (by omega)
    subst hl0
    clear h3 h4 hl h1 h2 hr'
    go_enter Try.func61, Try.ntmps61
    go_wp2_with fail
    go_ret
    exact ⟨_, rfl, World.ownsRow_nil _ _ _ _, Below.refl _ _⟩
  | some p =>
    have hp : ∀ j u, (u8s l)[j]? = some u → (w.alloc (.cells #[] 5)).cell? (p.add j) = some u := by
      intro j u hj
      have hlt : j < l.length := by have := (List.getElem?_eq_some_iff.1 hj).1; rwa [u8s_len] at this
      rcases h4 with h4 | ⟨g, off, ea, hg, hc⟩
      · rw [h4] at hj; simp at hj
      · obtain rfl := Option.some.inj ea
        rw [Addr.add_lit, World.cell?_of_block (w := w) (Below.heap_alloc w _ _ hg), hc j hlt, hj]
    have HP := Lib.hid hp
    have hown := World.ownsRow_lit (e := 5) (base := w.heap.size) (size := 1) w #[] 0 (Nat.le_refl _) (by simp [maxLen]) rfl
    have hnm : 0 + l.length ≤ maxLen := by unfold maxLen; omega
    have hnb : (0 + l.length) * 1 ≤ 140737488355328 := by omega
    clear h3 h4 hp h1 hr'
    go_enter Try.func61, Try.ntmps61
    go_wp2_with (at_builtin; refine wpList_append_own _ rfl _ _ 30 rfl w.heap.size 5 i0 (.int .u8 0) 1 1 Try.underlying30 hi hz0 hz1 hz2 rfl (by decide) _ _ _ rfl hown p l.length cap (u8s l) rfl (by rw [u8s_len, Nat.mul_one]) HP.out (u8s_one _) hnm hnb (by simp) ?_)
    intro v' w1 hown1 hgrow _
    go_wp2_with fail
    go_ret
    exact ⟨_, rfl, by simpa using hown1, (below_new w _).grown hgrow (by simp) (fun g hg => (hown.lt g hg).1)⟩
end Go.Proofs.Ytdlinlkdielmkaa.NR
