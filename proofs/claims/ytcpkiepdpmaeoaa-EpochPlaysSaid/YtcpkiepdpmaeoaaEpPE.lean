/-
  The program's split, Due, Take and Clear. Nothing here is a statement of the seed.
-/
import Derived.Test.YtcpkiepdpmaeoaaEpPD
set_option linter.unusedSimpArgs false
set_option linter.unusedVariables false
namespace Go.Proofs.Ytcpkiepdpmaeoaa.EP
open Go.RowKit WM NR OM OR EM ER EF
set_option maxHeartbeats 4000000
set_option maxRecDepth 10000
theorem lat_mono {l : List Wt} (hup : l.Pairwise fun x y => x.ep < y.ep) (q : Int × Bool) : ∀ i j, i ≤ j → j < l.length → latB q (l.getD i EM.w0) = true → latB q (l.getD j EM.w0) = true := fun i j hij hj h => by
  rcases Nat.lt_or_ge i j with hlt | hge
  · rw [List.pairwise_iff_getElem] at hup
    have := hup i j (by omega) hj hlt
    rw [List.getD_eq_getElem?_getD, List.getElem?_eq_getElem (by omega)] at h
    rw [List.getD_eq_getElem?_getD, List.getElem?_eq_getElem hj]
    simp only [Option.getD_some] at h ⊢
    unfold latB at h ⊢
    cases h2 : q.2 with
    | false => rw [h2] at h; simp at h
    | true => rw [h2] at h; simp at h ⊢; omega
  · obtain rfl : i = j := by omega
    exact h
/-- how many are due: a search over the closure -/
theorem search_any {W : World} {b0 b1 b2 : Nat} {a : Option Addr} {n k : Nat} {l : List Wt} {G : Nat → Prop} {L : Int} {C : Bool} {t0 t1 t2 : TypeId} (h : ReadsW G W (.slice a n k) l) (hm : ∀ i j, i ≤ j → j < l.length → latB (L, C) (l.getD i EM.w0) = true → latB (L, C) (l.getD j EM.w0) = true) (hn : n ≤ 1000)
    (h0 : Whole W b0 t0 #[.bool C]) (h1 : Whole W b1 t1 #[.slice a n k]) (h2 : Whole W b2 t2 #[.int .u64 L]) :
    Calls Try.prog 31 #[.int .i64 n, .func (.func 30) #[] #[.pointer (some ⟨b0, 0, none⟩), .pointer (some ⟨b1, 0, none⟩), .pointer (some ⟨b2, 0, none⟩)]] W fun e u => e = .returned (.int .i64 (l.countP (fun x => !latB (L, C) x) : Nat)) ∧ Below W.heap.size W u := by
  have hl := h.len.1
  have eg : ∀ args w, (callFunc 30 args).run Try.prog w = .ok (.enter 30 args) w := enters_of Try.func30 (by kernel_rfl) rfl
  have hg : ∀ (m : Nat) (os : Array Obj), ReadsW G (Go.Sort.grow (W.drewN m) os) (.slice a n k) l := fun m os => h.keep fun g _ hlt => by
    show (W.heap ++ os)[g]? = _
    rw [Array.getElem?_append_left hlt]
  have hS := Any.sort_Search Try.searchL 30 #[.pointer (some ⟨b0, 0, none⟩), .pointer (some ⟨b1, 0, none⟩), .pointer (some ⟨b2, 0, none⟩)] n (fun i => latB (L, C) (l.getD i EM.w0)) W eg (by omega)
    (fun m os i hi => (behind_any hi (hg m os) (cell_grown h0.lt (h0.cell 0) m os) (cell_grown h1.lt (h1.cell 0) m os) (cell_grown h2.lt (h2.cell 0) m os)).mono
      fun _ _ ⟨he, q, hq⟩ => ⟨he, q, #[], by rw [hq, Go.Sort.grow_empty]⟩) (fun i j hij hj hp => hm i j hij (by omega) hp)
  change Calls Try.prog 31 _ _ _ at hS
  rw [← hl, count_at l (fun x => !latB (L, C) x)] at hS
  rw [← hl]
  refine hS.mono ?_
  rintro e u ⟨he, q, os, rfl⟩
  exact ⟨he, below_grown_sl W.heap.size W q os (Nat.le_refl _)⟩
theorem split_any {w : World} {v : Value} {wa : Option Addr} {wn wc : Nat} {l : List Wt} {G : Nat → Prop} (CA : Calls Try.prog 29 #[v] w fun e u => e = .returned (.slice wa wn wc) ∧ w = u) (h : ReadsW G w (.slice wa wn wc) l) (hG : ∀ g, G g → g < w.heap.size) (hn : wn ≤ 1000)
    (hup : l.Pairwise fun x y => x.ep < y.ep) {a : Option Addr} {m k : Nat} {hs : List Hr} (hh : ReadsH (· < w.heap.size) w (.slice a m k) hs) :
    Calls Try.prog 26 #[v, .slice a m k] w fun e u => e = .returned (.tuple #[.slice wa (l.countP fun x => !latB (lstM hs) x) wc, .slice (if wc = (l.countP fun x => !latB (lstM hs) x) then wa else wa.map (·.add ((l.countP fun x => !latB (lstM hs) x) * 2))) (wn - (l.countP fun x => !latB (lstM hs) x)) (wc - (l.countP fun x => !latB (lstM hs) x))]) ∧ Below w.heap.size w u := by
  obtain ⟨n1, m1, m2⟩ := h.len
  have b1 := below_new w (.cells #[.slice wa wn wc] 47)
  have CL := Lib.hid (least_any (hh.below b1))
  obtain ⟨q, hq⟩ : ∃ q, lstM hs = q := ⟨_, rfl⟩
  rw [hq] at CL ⊢
  obtain ⟨L, C⟩ := q
  simp only at CL ⊢
  have HCA := Lib.hid CA
  have H0 := Lib.hid (Whole.new w 47 #[.slice wa wn wc])
  have HR := Lib.hid (h.keep (w' := w.alloc (.cells #[.slice wa wn wc] 47)) (fun g hg _ => b1.block g (hG g hg)))
  have HG := Lib.hid (fun g hg => Nat.lt_of_lt_of_le (hG g hg) b1.size)
  have HM := Lib.hid (lat_mono hup (L, C))
  have hlen2 : wn ≤ 1000 := hn
  obtain ⟨f, hf⟩ : ∃ f, (l.countP fun x => !latB (L, C) x) = f := ⟨_, rfl⟩
  have hfl : f ≤ wn := by rw [← hf, ← n1]; exact List.countP_le_length
  rw [hf]
  have HF := Lib.hid hf
  have hfz : (f : Int) ≤ (wn : Int) := by omega
  have hfc : (f : Int) ≤ (wc : Int) := by omega
  have hf0 : (0 : Int) ≤ (f : Int) := by omega
  have HN := Lib.hid n1
  have B1 := Lib.hid b1
  have hs1 : (w.alloc (.cells #[.slice wa wn wc] 47)).heap.size = w.heap.size + 1 := by simp
  clear hh h CA hq hf n1 b1 hG hup m2
  go_enter Try.func26, Try.ntmps26
  go_upto_region 3 with (first | (go_at_call 29; (with_reducible refine HCA.out.mono ?_); rintro e w1 ⟨rfl, rfl⟩) | (go_at_call 12; (with_reducible refine CL.out.mono ?_); rintro e w2 ⟨rfl, hb⟩; have HB := Lib.hid hb; clear hb))
  have HX := Lib.hid ((H0.out.belowS HB.out).alloc (.cells #[.int .u64 L] 26) |>.alloc (.cells #[.bool C] 4))
  have HY := Lib.hid ((Whole.new w2 26 #[.int .u64 L]).alloc (.cells #[.bool C] 4))
  have HZ := Lib.hid (Whole.new (w2.alloc (.cells #[.int .u64 L] 26)) 4 #[.bool C])
  have hs2 : (w2.alloc (.cells #[.int .u64 L] 26)).heap.size = w2.heap.size + 1 := by simp
  rw [hs2] at HZ
  have HB3 := Lib.hid (HB.out.trans (((below_new w2 (.cells #[.int .u64 L] 26)).mono HB.out.size).trans ((below_new (w2.alloc (.cells #[.int .u64 L] 26)) (.cells #[.bool C] 4)).mono (by have := HB.out.size; omega))))
  clear hs2
  have HBW := Lib.hid (B1.out.trans (HB3.out.mono (by omega)))
  generalize (w2.alloc (.cells #[.int .u64 L] 26)).alloc (.cells #[.bool C] 4) = W3 at *
  have HRD := Lib.hid (HR.out.keep (w' := W3) (fun g hg _ => HB3.out.block g (HG.out g hg)))
  have CS := Lib.hid (search_any HRD.out HM.out hlen2 HZ.out HX.out HY.out)
  rw [HF.out] at CS
  have x1 : W3.cell? ⟨w.heap.size, 0, none⟩ = some (.slice wa wn wc) := HX.out.cell 0
  have x6 := HX.out.lt
  have HXW := Lib.hid HX.out
  clear HR HRD HG HY HZ HX HM HN HB CL HCA H0 B1 HB3
  go_upto_region 5 with (go_at_call 31; (with_reducible refine CS.out.mono ?_); rintro e w4 ⟨rfl, hb⟩; have HB4 := Lib.hid hb; clear hb)
  have HX4 := HXW.out.belowS HB4.out
  have HBF := Lib.hid (HBW.out.trans (HB4.out.mono HBW.out.size))
  have y1 : w4.cell? ⟨w.heap.size, 0, none⟩ = some (.slice wa wn wc) := HX4.cell 0
  have y6 := HX4.lt
  clear HX4 HB4 HBW HXW CS x1 x6 hs1 hlen2
  go_quiet (fail)
  go_wp2_with fail
  · exact bodyPost_ret (v := .tuple #[.slice wa f f, .slice wa (wn - f) 0]) (by simp [results, Try.results26, go_sem]) rfl ⟨rfl, ⟨HBF.out.os, HBF.out.tape, HBF.out.output, HBF.out.size, HBF.out.block⟩⟩
  · exact bodyPost_ret (v := .tuple #[.slice wa f wc, .slice (wa.map (·.add (f * 2))) (wn - f) (wc - f)]) (by simp [results, Try.results26, go_sem]) rfl ⟨rfl, ⟨HBF.out.os, HBF.out.tape, HBF.out.output, HBF.out.size, HBF.out.block⟩⟩
section
variable {S : Nat → Prop} {w : World} {v : Value} {c : Ck} {n : Nat}
/-- what is due, told -/
theorem isOw_of {B : Nat} {u : World} {q : Value} {l : List Int} (h : IsOw B u q l) {B' : Nat} (hB : B' ≤ B) : IsOw B' u q l := Reads.mono h (fun g hg => ⟨by have := hg.1; omega, hg.2⟩)
theorem isOw_set {B : Nat} {u : World} {q : Value} {l : List Int} (h : IsOw B u q l) {p : Nat} (hp : p < B) (i : Nat) (y : Value) : IsOw B (u.setCell ⟨p, i, none⟩ y) q l :=
  (Reads.keep h (fun g hg _ => Below.heap_setCell _ _ _ _ (show g ≠ p by have := hg.1; omega))).mono fun g hg => ⟨hg.1, by simpa using hg.2⟩
theorem due_any (h : PT S w v c) (hg : Gd c n) (hn : n ≤ 1000) {a : Option Addr} {m k : Nat} {hs : List Hr} (hh : RdH S w a m k hs) : Calls Try.prog 19 #[v, .slice a m k] w fun e u => ∃ q, e = .returned q ∧ IsOw w.heap.size u q (dueM hs c.l) ∧ Below w.heap.size w u := by
  obtain ⟨p, wa, wn, wc, rfl, h⟩ := h
  have hr := h.row.reads
  have hl := h.row.1
  have hln := hg.ln
  obtain ⟨d1, d2⟩ := due_take hg hs (ReadsH.eps hh)
  rw [d1]
  have hhr : ReadsH (· < w.heap.size) w (.slice a m k) hs := hh.mono fun g hg _ => hg.2
  have CS := Lib.hid (split_any (all_any h.hd) hr (fun g hg => hg.2) (by omega) hg.up hhr)
  have hfl : (c.l.countP fun x => !latB (lstM hs) x) ≤ wn := by rw [← hl]; exact List.countP_le_length
  generalize (c.l.countP fun x => !latB (lstM hs) x) = f at *
  have CO := Lib.hid (show ∀ u, Below w.heap.size w u → _ from fun u hu => owners_any (take_reads (hr.keep (w' := u) fun g hg _ => hu.block g hg.2) hfl) (fun g hg => Nat.lt_of_lt_of_le hg.2 hu.size) (by omega))
  obtain ⟨x1, hx1⟩ : ∃ q, (if wc = f then wa else wa.map (·.add (f * 2))) = q := ⟨_, rfl⟩
  rw [hx1] at CS
  clear h hr hhr hh d1 d2 hx1
  go_enter Try.func19, Try.ntmps19
  go_wp2_with (first | (go_at_call 26; (with_reducible refine CS.out.mono ?_); rintro e w1 ⟨rfl, hb⟩; have HB := Lib.hid hb; clear hb) | (go_at_call 27; refine (CO.out w1 HB.out).mono ?_; rintro e w2 ⟨q, rfl, ho, hb⟩; have HO := Lib.hid ho; have HB2 := Lib.hid hb; clear ho hb))
  go_ret
  exact ⟨_, rfl, isOw_of HO.out HB.out.size, HB.out.trans (HB2.out.mono HB.out.size)⟩
theorem due_nil' (w : World) : Calls Try.prog 19 #[.pointer none, .slice none 0 0] w fun e u => ∃ a c, e = .returned (.slice a 0 c) ∧ Below w.heap.size w u := by
  have CS := Lib.hid (split_any (all_nil w) (ReadsW.nil (fun _ => False) w) (fun g hg => hg.elim) (by omega) List.Pairwise.nil (ReadsH.nil _ w))
  have CO := Lib.hid (fun u => owners_any (ReadsW.nil (fun _ => False) u) (fun g hg => hg.elim) (by omega))
  go_enter Try.func19, Try.ntmps19
  go_wp2_with (first | (go_at_call 26; (with_reducible refine CS.out.mono ?_); rintro e w1 ⟨rfl, hb⟩; have HB := Lib.hid hb; clear hb) | (go_at_call 27; refine (CO.out w1).mono ?_; rintro e w2 ⟨q, rfl, ho, hb⟩; have HO := Lib.hid ho; have HB2 := Lib.hid hb; clear ho hb))
  go_ret
  obtain ⟨qa, qc, rfl, h1, h2, h3⟩ := HO.out
  exact ⟨_, _, rfl, HB.out.trans (HB2.out.mono HB.out.size)⟩
theorem take_nil (w : World) : Calls Try.prog 20 #[.pointer none, .slice none 0 0] w fun e u => ∃ a c, e = .returned (.slice a 0 c) ∧ Below w.heap.size w u := by
  have CS := Lib.hid (split_any (all_nil w) (ReadsW.nil (fun _ => False) w) (fun g hg => hg.elim) (by omega) List.Pairwise.nil (ReadsH.nil _ w))
  have CO := Lib.hid (fun u => owners_any (ReadsW.nil (fun _ => False) u) (fun g hg => hg.elim) (by omega))
  go_enter Try.func20, Try.ntmps20
  go_wp2_with (first | (go_at_call 26; (with_reducible refine CS.out.mono ?_); rintro e w1 ⟨rfl, hb⟩; have HB := Lib.hid hb; clear hb) | (go_at_call 27; refine (CO.out w1).mono ?_; rintro e w2 ⟨q, rfl, ho, hb⟩; have HO := Lib.hid ho; have HB2 := Lib.hid hb; clear ho hb))
  go_ret
  obtain ⟨qa, qc, rfl, h1, h2, h3⟩ := HO.out
  exact ⟨_, _, rfl, HB.out.trans (HB2.out.mono HB.out.size)⟩
theorem clear_nil (w : World) : Calls Try.prog 22 #[.pointer none] w fun e u => ∃ a c, e = .returned (.slice a 0 c) ∧ Below w.heap.size w u := by
  have CA := Lib.hid (all_nil w)
  have CO := Lib.hid (owners_any (ReadsW.nil (fun _ => False) w) (fun g hg => hg.elim) (by omega))
  go_enter Try.func22, Try.ntmps22
  go_wp2_with (first | (go_at_call 29; (with_reducible refine CA.out.mono ?_); rintro e w1 ⟨rfl, rfl⟩) | (go_at_call 27; (with_reducible refine CO.out.mono ?_); rintro e w2 ⟨q, rfl, ho, hb⟩; have HO := Lib.hid ho; have HB2 := Lib.hid hb; clear ho hb))
  go_ret
  obtain ⟨qa, qc, rfl, h1, h2, h3⟩ := HO.out
  exact ⟨_, _, rfl, HB2.out⟩
/-- a clock whose row is put anew -/
theorem chg_put {S : Nat → Prop} {w u : World} {p : Nat} {wa xa : Option Addr} {wn wc xn xc : Nat} {c : Ck} {l : List Wt} (h : Pt S w p wa wn wc c) (hb : Below w.heap.size w u) (hr : RowC S w xa xn xc l) {u' : World} (hb2 : Below (u.setCell ⟨p, 1, none⟩ (.slice xa xn xc)).heap.size (u.setCell ⟨p, 1, none⟩ (.slice xa xn xc)) u') : Chg S w (.pointer (some ⟨p, 0, none⟩)) ⟨c.now, l⟩ u' := by
  have hd := h.hd.belowS hb
  have hd2 := hd.set_ 1 (.slice xa xn xc)
  have hr2 := (hr.belowS hb).box (i := 1) hd (by decide) (.slice xa xn xc)
  have hz : (u.setCell ⟨p, 1, none⟩ (.slice xa xn xc)).heap.size = u.heap.size := by simp
  have hs := hb.size
  have hs2 := hb2.size
  rw [hz] at hs2
  refine ⟨S, ⟨p, xa, xn, xc, rfl, hd2.belowS hb2, hr2.belowS hb2, h.sa, fun g hg => by have := h.lt g hg; omega⟩, fun b hb => Or.inl hb, ?_⟩
  exact (((Fr.of_below hb).mono fun i hi => Or.inl hi).set (p := ⟨p, 1, none⟩) (Or.inl h.sa) (.slice xa xn xc)).then hb2
theorem clear_any (h : PT S w v c) (hg : Gd c n) (hn : n ≤ 1000) : Calls Try.prog 22 #[v] w fun e u => ∃ q, e = .returned q ∧ IsOw w.heap.size u q (dueM [] c.l) ∧ Chg S w v (takC [] c) u := by
  obtain ⟨p, wa, wn, wc, rfl, h⟩ := h
  have hr := h.row.reads
  have hl := h.row.1
  have hln := hg.ln
  have CA := Lib.hid (all_any h.hd)
  have CO := Lib.hid (owners_any hr (fun g hg => hg.2) (by omega))
  have HR := Lib.hid (fun u (hu : Below w.heap.size w u) => chg_put (u' := u.setCell ⟨p, 1, none⟩ (.slice none 0 0)) h hu (RowC.nil S w) (Below.refl _ _))
  have HX := Lib.hid (fun u (hu : Below w.heap.size w u) => h.hd.belowS hu)
  have hp := h.hd.lt
  rw [due_nil]
  unfold takC
  rw [lef_nil]
  clear h hr hl hln hg
  go_enter Try.func22, Try.ntmps22
  go_upto_region 2 with (first | (go_at_call 29; (with_reducible refine CA.out.mono ?_); rintro e w1 ⟨rfl, rfl⟩) | (go_at_call 27; (with_reducible refine CO.out.mono ?_); rintro e w2 ⟨q, rfl, ho, hb⟩; have HO := Lib.hid ho; have HB2 := Lib.hid hb; clear ho hb))
  have hX := HX.out w2 HB2.out
  have R := Lib.hid (HR.out w2 HB2.out)
  have k1 := (two_at hX).2
  have k6 := hX.lt
  have kf := hX.frozen 1
  clear HX HR hX CA CO
  go_wp2_with fail
  go_ret
  exact ⟨_, rfl, isOw_set HO.out hp _ _, R.out⟩
theorem take_any (h : PT S w v c) (hg : Gd c n) (hn : n ≤ 1000) {a : Option Addr} {m k : Nat} {hs : List Hr} (hh : RdH S w a m k hs) : Calls Try.prog 20 #[v, .slice a m k] w fun e u => ∃ q, e = .returned q ∧ IsOw w.heap.size u q (dueM hs c.l) ∧ Chg S w v (takC hs c) u := by
  obtain ⟨p, wa, wn, wc, rfl, h⟩ := h
  have hrow := h.row
  have hl := h.row.1
  have hln := hg.ln
  obtain ⟨d1, d2⟩ := due_take hg hs (ReadsH.eps hh)
  unfold takC
  rw [d1, d2]
  have hhr : ReadsH (· < w.heap.size) w (.slice a m k) hs := hh.mono fun g hg _ => hg.2
  have CS := Lib.hid (split_any (all_any h.hd) hrow.reads (fun g hg => hg.2) (by omega) hg.up hhr)
  have hfl : (c.l.countP fun x => !latB (lstM hs) x) ≤ wn := by rw [← hl]; exact List.countP_le_length
  generalize (c.l.countP fun x => !latB (lstM hs) x) = f at *
  have hdr := hrow.drop hfl
  obtain ⟨x1, hx1⟩ : ∃ q, (if wc = f then wa else wa.map (·.add (f * 2))) = q := ⟨_, rfl⟩
  rw [hx1] at CS hdr
  have CO := Lib.hid (show ∀ u, Below w.heap.size w u → _ from fun u hu => owners_any (w := u.setCell ⟨p, 1, none⟩ (.slice x1 (wn - f) (wc - f))) (take_reads ((hrow.belowS hu).box (i := 1) (h.hd.belowS hu) (by decide) (.slice x1 (wn - f) (wc - f))).reads hfl) (fun g hg => hg.2) (by omega))
  have HR := Lib.hid (fun u u' (hu : Below w.heap.size w u) (hu2 : Below (u.setCell ⟨p, 1, none⟩ (.slice x1 (wn - f) (wc - f))).heap.size (u.setCell ⟨p, 1, none⟩ (.slice x1 (wn - f) (wc - f))) u') => chg_put h hu hdr hu2)
  have HX := Lib.hid (fun u (hu : Below w.heap.size w u) => h.hd.belowS hu)
  clear h hrow hhr hh d1 d2 hx1 hdr hl hln hg
  go_enter Try.func20, Try.ntmps20
  go_upto_region 2 with (go_at_call 26; (with_reducible refine CS.out.mono ?_); rintro e w1 ⟨rfl, hb⟩; have HB := Lib.hid hb; clear hb)
  have hX := HX.out w1 HB.out
  have k1 := (two_at hX).2
  have k6 := hX.lt
  have kf := hX.frozen 1
  have HO1 := Lib.hid (CO.out w1 HB.out)
  have HR1 := Lib.hid (fun u' => HR.out w1 u' HB.out)
  have hz := Lib.hid (show w.heap.size ≤ (w1.setCell ⟨p, 1, none⟩ (.slice x1 (wn - f) (wc - f))).heap.size by simpa using HB.out.size)
  clear CO HR HX CS hX
  go_wp2_with (go_at_call 27; (with_reducible refine HO1.out.mono ?_); rintro e w2 ⟨q, rfl, ho, hb⟩; have HO := Lib.hid ho; have HB2 := Lib.hid hb; clear ho hb)
  go_ret
  exact ⟨_, rfl, isOw_of HO.out hz.out, HR1.out w2 HB2.out⟩
end
end Go.Proofs.Ytcpkiepdpmaeoaa.EP
