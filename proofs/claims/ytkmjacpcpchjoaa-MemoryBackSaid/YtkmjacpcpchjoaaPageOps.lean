/-
  Pages published, retired, released; a fork: the program's. Nothing here is a statement of the seed.
-/
import Derived.Test.YtkmjacpcpchjoaaPageStage
import Derived.Lib.SliceRun
set_option linter.unusedSimpArgs false
set_option linter.unusedVariables false
namespace Go.Proofs.Ytkmjacpcpchjoaa.PF
open Go.RowKit PM PR

theorem upd_id (c : Pg → Bool) (l : List Pg) : upd c (fun _ p => p) l = l := by
  refine ext_getD (upd_len ..) fun j hj => ?_
  rw [upd_len] at hj
  rw [upd_at hj]
  split <;> rfl
section
variable {p g gs : Nat} {l : List Pg} {u : World} {v : Value}
theorem count_any (h : Tb u p g l) (o : Int) (hs : Sts u v gs 1 1) : Calls Try.prog 63 #[.pointer (some ⟨p, 0, none⟩), .int .u16 o, .func (.func 64) #[] #[], v] u fun e w' =>
    e = .returned (.int .i64 (num (ownS o 1 1) l : Int)) ∧ Fr (fun i => i = g) u w' ∧ Row w' g l := by
  refine (change_as p g gs l o 1 1 v (fun _ q => q) (fun _ _ => True) (fun _ => False) u h hs trivial id id id (fun i h => h.elim) (fun _ _ _ _ _ => trivial) (fun u k q _ _ => (asItIs_any q u).mono fun e w' ⟨he, hb⟩ => ⟨he, Fr.of_below hb, trivial⟩)).mono ?_
  rintro e w' ⟨he, hf, hr, _⟩
  rw [upd_id] at hr
  exact ⟨he, hf.mono (fun i h => h.elim Or.inl False.elim), hr⟩
theorem reld_any (h : Tb u p g l) (o : Int) (hs : Sts u v gs 1 3) : Calls Try.prog 63 #[.pointer (some ⟨p, 0, none⟩), .int .u16 o, .func (.func 88) #[] #[], v] u fun e w' =>
    e = .returned (.int .i64 (num (ownS o 1 3) l : Int)) ∧ Fr (fun i => i = g) u w' ∧ Row w' g (relL l o) := by
  refine (change_rel p g gs l o 1 3 v relF (fun _ _ => True) (fun _ => False) u h hs trivial id id id (fun i h => h.elim) (fun _ _ _ _ _ => trivial) (fun u k q _ _ => (release1_any q u).mono fun e w' ⟨he, hb⟩ => ⟨he, Fr.of_below hb, trivial⟩)).mono ?_
  rintro e w' ⟨he, hf, hr, _⟩
  exact ⟨he, hf.mono (fun i h => h.elim Or.inl False.elim), hr⟩
theorem retd_any (h : Tb u p g l) (o ee : Int) (E : Nat) (hs : Sts u v gs 2 2) (hE : Whole u E 39 #[.int .u64 ee]) : Calls Try.prog 63 #[.pointer (some ⟨p, 0, none⟩), .int .u16 o, .func (.func 67) #[] #[.pointer (some ⟨E, 0, none⟩)], v] u fun e w' =>
    e = .returned (.int .i64 (num (ownS o 2 2) l : Int)) ∧ Fr (fun i => i = g) u w' ∧ Row w' g (retL l o ee) := by
  have hEg : E ≠ g := hE.ne_ h.row.choose_spec (by decide)
  refine (change_ret p g gs l o 2 2 v (retF ee) (fun w _ => Whole w E 39 #[.int .u64 ee]) (fun _ => False) E u h hs hE id id id (fun i h => h.elim) (fun w w' _ hb hf => hb.fr hf hEg) (fun w k q _ hb => (retire1_any q ee k E w hb).mono fun e w' ⟨he, hb1⟩ => ⟨he, Fr.of_below hb1, hb.belowS hb1⟩)).mono ?_
  rintro e w' ⟨he, hf, hr, _⟩
  exact ⟨he, hf.mono (fun i h => h.elim Or.inl False.elim), hr⟩
theorem pubd_any (h : Tb u p g l) (o code : Int) (D E : Nat) (hs : Sts u v gs 1 1) (hD : Whole u D 3 #[.int .i64 0]) (hE : Whole u E 3 #[.int .i64 code]) (hDE : D ≠ E) : Calls Try.prog 63 #[.pointer (some ⟨p, 0, none⟩), .int .u16 o, .func (.func 65) #[] #[.pointer (some ⟨D, 0, none⟩), .pointer (some ⟨E, 0, none⟩)], v] u fun e w' =>
    e = .returned (.int .i64 (num (ownS o 1 1) l : Int)) ∧ Fr (fun i => i = g ∨ i = D) u w' ∧ Row w' g (upd (ownS o 1 1) (pubF code) l) := by
  have hEg : E ≠ g := hE.ne_ h.row.choose_spec (by decide)
  have hDg : D ≠ g := hD.ne_ h.row.choose_spec (by decide)
  have hDs : D ≠ gs := hs.ne_ hD (by decide)
  have hDp : D ≠ p := by obtain ⟨_, _, c, _, _, hp⟩ := h; exact hD.ne_ hp (by decide)
  refine (change_pub p g gs l o 1 1 v (pubF code) (fun w k => Whole w D 3 #[.int .i64 (k : Int)] ∧ Whole w E 3 #[.int .i64 code]) (fun i => i = D) D E u h hs ⟨hD, hE⟩ hDp.symm hDg.symm hDs.symm (fun i h => by rw [h]; exact hD.lt) (fun w w' _ hb hf => ⟨hb.1.fr hf hDg, hb.2.fr hf hEg⟩)
    (fun w k q hk hb => (publish1_any q code k D E w hk hb.1 hb.2 hDE).mono fun e w' ⟨he, hf, hb1⟩ => ⟨he, hf, hb1, hb.2.fr hf hDE.symm⟩)).mono ?_
  rintro e w' ⟨he, hf, hr, _⟩
  exact ⟨he, hf, hr⟩
end
theorem tb_fr {p g : Nat} {l : List Pg} {w w' : World} (h : Tb w p g l) (hf : Fr (fun i => i = g) w w') (hr : Row w' g l) : Tb w' p g l := h.turn hf (fun e => h.lt.2.2 e) rfl hr
theorem release_nil (o : Int) (w : World) : Calls Try.prog 71 #[.pointer none, .int .u16 o] w fun e w' => e = .returned (.int .i64 1) ∧ w = w' := by
  go_enter Try.func71, Try.ntmps71
  go_wp2_with fail
  go_ret
  exact ⟨rfl, rfl⟩
theorem retire_nil (o ee : Int) (w : World) : Calls Try.prog 34 #[.pointer none, .int .u16 o, .int .u64 ee] w fun e w' => e = .returned (.int .i64 1) ∧ Below w.heap.size w w' := by
  go_enter Try.func34, Try.ntmps34
  go_wp2_with fail
  go_ret
  exact ⟨rfl, below_new _ _⟩
theorem publish_nil (o code : Int) (w : World) : Calls Try.prog 33 #[.pointer none, .int .u16 o, .int .i64 code] w fun e w' => e = .returned (.int .i64 1) ∧ Below w.heap.size w w' := by
  go_enter Try.func33, Try.ntmps33
  go_wp2_with fail
  go_ret
  exact ⟨rfl, below_new _ _⟩
theorem release_tb {p g : Nat} {l : List Pg} {w : World} (h : Tb w p g l) (o : Int) : Calls Try.prog 71 #[.pointer (some ⟨p, 0, none⟩), .int .u16 o] w (Turns g (relE l o) (relL l o) w) := by
  have hb := below_new w (.cells #[.int .u8 1, .int .u8 3] 67)
  have C := Lib.hid (reld_any (h.belowS hb) o (Or.inr ⟨rfl, Whole.new w _ _⟩))
  have CU := Lib.hid (fun w => unless_any (num (ownS o 1 3) l) w)
  have he : relE l o = if num (ownS o 1 3) l = 0 then 8 else 0 := rfl
  rw [← he] at CU
  clear he
  generalize relE l o = x at *
  clear h
  go_enter Try.func71, Try.ntmps71
  go_wp2_with (first | (go_at_call 63; (with_reducible refine C.out.mono ?_); rintro e w1 ⟨rfl, hf, hr⟩; have HR := Lib.hid hr; clear hr) | (go_at_call 66; (with_reducible refine (CU.out _).mono ?_); rintro e w2 ⟨rfl, rfl⟩))
  go_ret
  exact ⟨rfl, (Fr.of_below hb).trans hf (fun i h => Or.inl h), HR.out⟩
theorem retire_tb {p g : Nat} {l : List Pg} {w : World} (h : Tb w p g l) (o ee : Int) : Calls Try.prog 34 #[.pointer (some ⟨p, 0, none⟩), .int .u16 o, .int .u64 ee] w (Turns g (retE l o) (retL l o ee) w) := by
  have hb0 := below_new w (.cells #[.int .u64 ee] 39)
  have hb := (hb0.alloc (by simp) (.cells #[.int .u8 2] 67))
  have C := Lib.hid (retd_any (h.belowS hb) o ee w.heap.size (Or.inl ⟨rfl, rfl, Whole.new _ _ _⟩) ((Whole.new w _ _).alloc _))
  simp only [World.size_alloc] at C
  have CU := Lib.hid (fun w => unless_any (num (ownS o 2 2) l) w)
  have he : retE l o = if num (ownS o 2 2) l = 0 then 8 else 0 := rfl
  rw [← he] at CU
  clear he
  generalize retE l o = x at *
  clear h hb0
  go_enter Try.func34, Try.ntmps34
  go_wp2_with (first | (go_at_call 63; (with_reducible refine C.out.mono ?_); rintro e w1 ⟨rfl, hf, hr⟩; have HR := Lib.hid hr; clear hr) | (go_at_call 66; (with_reducible refine (CU.out _).mono ?_); rintro e w2 ⟨rfl, rfl⟩))
  go_ret
  exact ⟨rfl, (Fr.of_below hb).trans hf (fun i h => Or.inl h), HR.out⟩
set_option maxHeartbeats 1000000 in
theorem publish_tb {p g : Nat} {l : List Pg} {w : World} (h : Tb w p g l) (o code : Int) : Calls Try.prog 33 #[.pointer (some ⟨p, 0, none⟩), .int .u16 o, .int .i64 code] w (Turns g (pubE l o code) (pubL l o code) w) := by
  have hb0 := below_new w (.cells #[.int .i64 code] 3)
  have hb := (hb0.alloc (by simp) (.cells #[.int .u8 1] 67))
  have hT2 := h.belowS hb
  have hE2 : Whole ((w.alloc (.cells #[.int .i64 code] 3)).alloc (.cells #[.int .u8 1] 67)) w.heap.size 3 #[.int .i64 code] := (Whole.new w _ _).alloc _
  have C := Lib.hid (count_any hT2 o (Or.inl ⟨rfl, rfl, Whole.new _ _ _⟩))
  simp only [World.size_alloc] at C
  have hg := h.lt.1
  have hn := rank_le (ownS o 1 1) l l.length
  have h256 := h.1
  -- behind the count
  have HC2 : Hid (∀ w2, Fr (fun i => i = g) ((w.alloc (.cells #[.int .i64 code] 3)).alloc (.cells #[.int .u8 1] 67)) w2 → Row w2 g l → Whole w2 w.heap.size 3 #[.int .i64 code] ∧
      Calls Try.prog 63 #[.pointer (some ⟨p, 0, none⟩), .int .u16 o, .func (.func 65) #[] #[.pointer (some ⟨w2.heap.size, 0, none⟩), .pointer (some ⟨w.heap.size, 0, none⟩)], .slice (some ⟨w2.heap.size + 1, 0, none⟩) 1 1]
        ((w2.alloc (.cells #[.int .i64 0] 3)).alloc (.cells #[.int .u8 1] 67)) fun e w' =>
          e = .returned (.int .i64 (num (ownS o 1 1) l : Int)) ∧ Fr (fun i => i = g ∨ i = w2.heap.size) w2 w' ∧ Row w' g (upd (ownS o 1 1) (pubF code) l)) := Lib.hid fun w2 hf hr => by
    have hE := hE2.fr hf (by show ¬ w.heap.size = g; omega)
    have ht := tb_fr hT2 hf hr
    have hb2 := ((below_new w2 (.cells #[.int .i64 0] 3)).alloc (by simp) (.cells #[.int .u8 1] 67))
    have K := pubd_any (ht.belowS hb2) o code w2.heap.size w.heap.size (Or.inl ⟨rfl, rfl, Whole.new _ _ _⟩) ((Whole.new w2 _ _).alloc _) (hE.belowS hb2) (by have := hf.size; simp at this; omega)
    simp only [World.size_alloc] at K
    exact ⟨hE, K.mono fun e w' ⟨he, hf2, hr2⟩ => ⟨he, (Fr.of_below hb2).trans hf2 (fun i h => Or.inl h), hr2⟩⟩
  clear hT2 hE2 hb0 h
  have he : pubE l o code = if num (ownS o 1 1) l = 0 then 8 else if code < 0 ∨ (num (ownS o 1 1) l : Int) < code then 2 else 0 := rfl
  have hl : pubL l o code = if pubE l o code = 0 then upd (ownS o 1 1) (pubF code) l else l := rfl
  change num (ownS o 1 1) l ≤ _ at hn
  rw [hl, he]
  clear he hl
  generalize upd (ownS o 1 1) (pubF code) l = l' at *
  generalize num (ownS o 1 1) l = n at *
  have hn2 : (n : Int) ≤ 256 := by omega
  have hn0 : (0 : Int) ≤ n := by omega
  by_cases h0 : n = 0
  · subst h0
    show Calls _ _ _ _ (Turns g 8 l w)
    go_enter Try.func33, Try.ntmps33
    go_wp2_with (go_at_call 63; (with_reducible refine C.out.mono ?_); rintro e w1 ⟨rfl, hf, hr⟩; have HR := Lib.hid hr; clear hr)
    go_ret
    exact ⟨rfl, (Fr.of_below hb).trans hf (fun i h => Or.inl h), HR.out⟩
  · rw [if_neg h0]
    have h0' : ((n : Int) == 0) = false := by simp; omega
    have hc0 : Hid (n ≠ 0) := Lib.hid h0
    clear h0
    by_cases h1 : code < 0
    · rw [if_pos (Or.inl h1)]
      show Calls _ _ _ _ (Turns g 2 l w)
      go_enter Try.func33, Try.ntmps33
      go_wp2_with (go_at_call 63; (with_reducible refine C.out.mono ?_); rintro e w1 ⟨rfl, hf, hr⟩; have hcE := (HC2.out _ hf hr).1.cell 0; rw [show (#[Value.int .i64 code][0]?) = some (.int .i64 code) from rfl] at hcE; have HR := Lib.hid hr; clear hr)
      go_ret
      exact ⟨rfl, (Fr.of_below hb).trans hf (fun i h => Or.inl h), HR.out⟩
    · have h1' : 0 ≤ code := by omega
      by_cases h2 : (n : Int) < code
      · rw [if_pos (Or.inr h2)]
        show Calls _ _ _ _ (Turns g 2 l w)
        go_enter Try.func33, Try.ntmps33
        go_wp2_with (go_at_call 63; (with_reducible refine C.out.mono ?_); rintro e w1 ⟨rfl, hf, hr⟩; have hcE := (HC2.out _ hf hr).1.cell 0; rw [show (#[Value.int .i64 code][0]?) = some (.int .i64 code) from rfl] at hcE; have HR := Lib.hid hr; clear hr)
        go_ret
        exact ⟨rfl, (Fr.of_below hb).trans hf (fun i h => Or.inl h), HR.out⟩
      · rw [if_neg (by omega)]
        show Calls _ _ _ _ (Turns g 0 l' w)
        have h2' : code ≤ (n : Int) := by omega
        clear h2 h1
        go_enter Try.func33, Try.ntmps33
        go_wp2_with (first | (go_at_call 63; (with_reducible refine C.out.mono ?_); rintro e w1 ⟨rfl, hf, hr⟩; have hcE := (HC2.out _ hf hr).1.cell 0; rw [show (#[Value.int .i64 code][0]?) = some (.int .i64 code) from rfl] at hcE; have HCC := Lib.hid (HC2.out _ hf hr).2; clear hr) | (go_at_call 63; (with_reducible refine HCC.out.mono ?_); rintro e w2 ⟨rfl, hf2, hr2⟩; have HR := Lib.hid hr2; clear hr2))
        go_ret
        exact ⟨rfl, ((Fr.of_below hb).trans hf (fun i h => Or.inl h)).trans hf2 (fun i h => h.elim Or.inl (fun h => Or.inr (by have := hf.size; simp at this; omega))), HR.out⟩
/-- a copy of the pages in memory of its own -/
def Copied (l : List Pg) (w : World) (e : Ending) (w' : World) : Prop := ∃ g c, e = .returned (.slice (some ⟨g, 0, none⟩) l.length c) ∧ Row w' g l ∧ w.heap.size ≤ g ∧ l.length ≤ c ∧ c ≤ maxLen ∧ Below w.heap.size w w'
theorem own_empty (w : World) : (w.alloc (.cells #[] 69)).ownsRow w.heap.size 69 5 (.slice (some ⟨w.heap.size, 0, none⟩) 0 0) 0 [] :=
  ⟨rfl, Or.inr ⟨w.heap.size, 0, #[], rfl, Nat.le_refl _, heap_alloc_new w _, Nat.le_refl _, by simp [maxLen], rfl, rfl⟩⟩
theorem cs_one (l : List Pg) : ∀ u ∈ cs l, u.oneCell' = true := by
  intro u hu
  obtain ⟨q, _, hq⟩ := List.mem_flatMap.1 hu
  simp only [pcs, List.mem_cons, List.not_mem_nil, or_false] at hq
  rcases hq with rfl | rfl | rfl | rfl | rfl <;> rfl
theorem Row.news {w : World} {g : Nat} {l : List Pg} (h : Row w g l) : ∀ j u, (cs l)[j]? = some u → w.cell? ((⟨g, 0, none⟩ : Addr).add j) = some u := by
  intro j u hj
  obtain ⟨r, h⟩ := h
  rw [Addr.add_mid, Nat.zero_add, h.cell, List.getElem?_toArray, List.getElem?_append_left (List.getElem?_eq_some_iff.1 hj).1, hj]
theorem copied_of {w w0 w1 : World} {v' : Value} {l : List Pg} {v : Value} (hb : Below w.heap.size w w0) (h1 : w1.ownsRow w.heap.size 69 5 v' (0 + l.length) ([] ++ cs l)) (h2 : w0.grownBy w1 v.ownBlock) (hv : ∀ g, v.ownBlock = some g → w.heap.size ≤ g) (h3 : v' = .slice none 0 0 ↔ v = .slice none 0 0 ∧ l.length = 0) (hv0 : v ≠ .slice none 0 0) : ∃ g c, v' = .slice (some ⟨g, 0, none⟩) l.length c ∧ Row w1 g l ∧ w.heap.size ≤ g ∧ l.length ≤ c ∧ c ≤ maxLen ∧ Below w.heap.size w w1 := by
  rw [Nat.zero_add, List.nil_append] at h1
  obtain ⟨g, c, e, _, hB, hc, hm, hr⟩ := Row.of_owns h1 (fun e => hv0 (h3.1 e).1)
  exact ⟨g, c, e, hr, hB, hc, hm, hb.grown h2 hb.size hv⟩
set_option maxHeartbeats 1000000 in
theorem clone_any {g c : Nat} {l : List Pg} {w : World} (hr : Row w g l) (h256 : l.length ≤ 256) : Calls Try.prog 75 #[.slice (some ⟨g, 0, none⟩) l.length c] w (Copied l w) := by
  obtain ⟨i0, hi, hz0, hz1, hz2⟩ := info_parts infoPg
  have hq : ∀ u, (binOp .eql 28 (.slice (some ⟨g, 0, none⟩) l.length c) (.slice none 0 0)).run Try.prog u = .ok (.bool false) u := fun u => @Lib.run_eql_slice_nil Try.prog u 28 69 (some ⟨g, 0, none⟩) l.length c 0 0 Try.underlying28
  have hn := Lib.hid (Row.news (hr.alloc (.cells #[] 69)))
  have hl := Lib.hid (cs_len l)
  have HO := Lib.hid (own_empty w)
  go_enter Try.func75, Try.ntmps75
  go_wp2_with (at_builtin; refine wpList_append_own _ rfl _ _ 28 rfl w.heap.size 69 i0 _ 5 16 Try.underlying28 hi hz0 hz1 hz2 rfl (by decide) (.slice (some ⟨w.heap.size, 0, none⟩) 0 0) 0 [] rfl HO.out ⟨g, 0, none⟩ l.length c (cs l) rfl hl.out hn.out (cs_one l) (by unfold maxLen; omega) (by omega) (by simp) ?_; intro v' w1 hown hgrow hnil; obtain ⟨g', c', rfl, hrow, hg', hc1, hc2, hb⟩ := copied_of (below_new w _) hown hgrow (by intro g h; simp [Value.ownBlock] at h; omega) hnil (by simp); have HR := Lib.hid hrow; clear hown hgrow hnil hrow)
  go_ret
  exact ⟨g', c', rfl, HR.out, hg', hc1, hc2, hb⟩
def ForkR (l : List Pg) (w : World) (e : Ending) (w' : World) : Prop := ∃ p g, e = .returned (.pointer (some ⟨p, 0, none⟩)) ∧ Tb w' p g l ∧ w.heap.size ≤ p ∧ w.heap.size ≤ g ∧ Below w.heap.size w w'
theorem fork_nil (w : World) : Calls Try.prog 44 #[.pointer none] w fun e w' => e = .returned (.pointer none) ∧ w = w' := by
  go_enter Try.func44, Try.ntmps44
  go_wp2_with fail
  go_ret
  exact ⟨rfl, rfl⟩
theorem fork_tb {p g : Nat} {l : List Pg} {w : World} (h : Tb w p g l) : Calls Try.prog 44 #[.pointer (some ⟨p, 0, none⟩)] w (ForkR l w) := by
  obtain ⟨c, h256, hlc, hcm, hcell⟩ := h.cell
  have C := Lib.hid (clone_any (c := c) h.row h256)
  clear h
  go_enter Try.func44, Try.ntmps44
  go_wp2_with (go_at_call 75; (with_reducible refine C.out.mono ?_); rintro e w1 ⟨g', c', rfl, hr, hg', hc1, hc2, hb⟩; have HR := Lib.hid hr; clear hr)
  go_ret
  exact ⟨w1.heap.size, g', rfl, ⟨h256, HR.out.alloc _, c', hc1, hc2, Whole.new _ _ _⟩, hb.size, hg', hb.alloc hb.size _⟩
end Go.Proofs.Ytkmjacpcpchjoaa.PF
