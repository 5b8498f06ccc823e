/-
  The program tells what some nodes reach. Nothing here is a statement of the seed.
-/
import Derived.Test.YtijcojidfallkaaGraphPV
import Derived.Laws.EntriesVeiled
import Derived.Test.YtijcojidfallkaaShelf
set_option linter.unusedSimpArgs false
set_option linter.unusedVariables false
namespace Go.Proofs.Ytijcojidfallkaa.GP
open Go.RowKit WM NR OM OR GM GR MV
set_option maxHeartbeats 4000000
set_option maxRecDepth 10000
theorem reads_atG {G : Nat → Prop} {w u : World} {a : Option Addr} {n c : Nat} {xs : List Value} (h : Reads G w (.slice a n c) xs) (hu : ∀ g, G g → g < w.heap.size → u.heap[g]? = w.heap[g]?) {k : Nat} (hk : k < n) : ∃ g off, a = some ⟨g, off, none⟩ ∧ n ≤ c ∧ u.cell? ⟨g, off + k, none⟩ = xs[k]? :=
  reads_at ((h.keep hu).there.mono (fun g hg => hg.2) : Reads (· < u.heap.size) u _ _) (Below.refl _ _) hk
theorem sclone_any {G : Nat → Prop} {w : World} {a : Option Addr} {n c : Nat} {ns : List (List UInt8)} (h : Reads G w (.slice a n c) (strs ns)) (hn : ns.length ≤ 80000) :
    Calls Try.prog 54 #[.slice a n c] w fun e u => ∃ v', e = .returned v' ∧ u.ownsRow w.heap.size 9 1 v' ns.length (strs ns) ∧ Below w.heap.size w u := by
  obtain ⟨a', cap, e, h1, h2, h3, h4⟩ := h
  simp only [Value.slice.injEq] at e
  obtain ⟨rfl, rfl, rfl⟩ := e
  have hl : (strs ns).length = ns.length := by rw [strs_len]
  rw [hl] at h1 ⊢
  by_cases h0 : ns = []
  · subst h0
    cases a with
    | none => exact (Try.slices_Clone_string_nil 0 c w).mono fun e u ⟨h1, h2⟩ => ⟨_, h1, World.ownsRow_nil _ _ _ _, by subst h2; exact Below.refl _ _⟩
    | some p => exact (Try.slices_Clone_string_zero p c w).mono fun e u ⟨v', h1, h2, _, h3⟩ => ⟨v', h1, h2, h3⟩
  · rcases h4 with h4 | ⟨g, off, rfl, _, hc⟩
    · exact absurd (List.length_eq_zero_iff.1 (by rw [← hl, h4]; rfl)) h0
    · refine (Try.slices_Clone_string g off ns.length c (ns.map bs) w (by simp) (by omega) (fun j hj => ?_)).mono fun e u ⟨v', h1, h2, _, h3⟩ => ⟨v', h1, ?_, h3⟩
      · rw [List.length_map] at hj
        rw [hc j (by omega), strs_at hj]
        simp [List.getD_eq_getElem?_getD, hj]
      · have : (List.take ns.length (ns.map bs)).map Value.string = strs ns := by rw [← List.map_take, List.take_length]; simp [strs]
        rw [this] at h2
        exact h2
theorem own_form' {w : World} {B : Nat} {e : TypeId} {size n : Nat} {v : Value} {xs : List Value} (h : w.ownsRow B e size v n xs) : ∃ a c, v = .slice a n c := by
  rcases h.2 with ⟨rfl, rfl⟩ | ⟨g, cap, cur, rfl, _⟩
  · exact ⟨none, 0, rfl⟩
  · exact ⟨_, cap, rfl⟩
/-- how long a slice in a box is -/
def lenAt (w : World) (p : Nat) : Nat := match w.cell? ⟨p, 0, none⟩ with
  | some (.slice _ n _) => n
  | _ => 0
theorem lenAt_of {w : World} {p n c : Nat} {a : Option Addr} {t : TypeId} (h : Whole w p t #[.slice a n c]) : lenAt w p = n := by
  have := h.cell 0
  unfold lenAt
  rw [this]
  rfl
section
variable {S : Nat → Prop} {w : World} {a b : Nat} {k : Tx → Nat} {g : List Nd}
theorem reached_pt (h : Pt S w a b k g) (hg : GM.Good g) (h300 : g.length ≤ 300) {na : Option Addr} {nn nc : Nat} {xs : List Tx} (hx : Reads (· < w.heap.size) w (.slice na nn nc) (strs xs)) (hxn : ∀ x ∈ xs, hasM g x = true) (hxl : xs.length ≤ 80000) :
    Calls Try.prog 38 #[.pointer (some ⟨a, 0, none⟩), .slice na nn nc] w fun e u => ∃ m L, e = .returned (.map (some m)) ∧ ME u m (memF L) ∧ (∀ x, x ∈ L ↔ ∃ d ∈ xs, x = d ∨ GM.Reach g d x) ∧ Below w.heap.size w u := by
  have HH := Lib.hid h
  have HG := Lib.hid hg
  have H3 := Lib.hid h300
  have HXN := Lib.hid hxn
  have HXL := Lib.hid hxl
  have HX := Lib.hid hx
  have hmm := @run_makeMap Try.prog
  have CC := Lib.hid (fun (u : World) (hu : Below w.heap.size w u) => sclone_any (hx.keep (w' := u) fun g hg _ => hu.block g hg) hxl)
  have hn0 : ∀ u : World, (zeroValue 86).run Try.prog u = .ok .nilFunc u := fun u => by kernel_rfl
  clear h hg h300 hxn hxl hx
  go_enter Try.func38, Try.ntmps38
  go_upto_region 2 with fail
  have x0 : Whole (w.alloc (.cells #[.pointer (some ⟨a, 0, none⟩)] 25)) w.heap.size 25 #[.pointer (some ⟨a, 0, none⟩)] := Whole.new _ _ _
  have x1 : ME ((w.alloc (.cells #[.pointer (some ⟨a, 0, none⟩)] 25)).alloc (.map #[] 0)) (w.heap.size + 1) (memF []) := by
    have := (MapV.made (P := Try.prog) (K := 9) (ok := any) (w.alloc (.cells #[.pointer (some ⟨a, 0, none⟩)] 25))).as (g := memF []) (fun s _ => rfl)
    simpa using this
  have x2 := Whole.new ((w.alloc (.cells #[.pointer (some ⟨a, 0, none⟩)] 25)).alloc (.map #[] 0)) 57 #[.map (some (w.heap.size + 1))]
  have hb2 : Below w.heap.size w (((w.alloc (.cells #[.pointer (some ⟨a, 0, none⟩)] 25)).alloc (.map #[] 0)).alloc (.cells #[.map (some (w.heap.size + 1))] 57)) := (((Below.refl _ w).alloc (Nat.le_refl _) _).alloc (by simp) _).alloc (by simp; omega) _
  have HX0 := Lib.hid ((x0.alloc (.map #[] 0)).alloc (.cells #[.map (some (w.heap.size + 1))] 57))
  have HM0 := Lib.hid (x1.belowS ((Below.refl _ _).alloc (Nat.le_refl _) (.cells #[.map (some (w.heap.size + 1))] 57)))
  simp only [World.size_alloc] at x2
  have HX2 := Lib.hid x2
  have hs2 : (((w.alloc (.cells #[.pointer (some ⟨a, 0, none⟩)] 25)).alloc (.map #[] 0)).alloc (.cells #[.map (some (w.heap.size + 1))] 57)).heap.size = w.heap.size + 3 := by simp
  have HS2 := Lib.hid hs2
  have HB2 := Lib.hid hb2
  clear x0 x1 x2 hb2 hs2
  generalize ((w.alloc (.cells #[.pointer (some ⟨a, 0, none⟩)] 25)).alloc (.map #[] 0)).alloc (.cells #[.map (some (w.heap.size + 1))] 57) = W2 at *
  go_upto_region 3 with (go_at_call 54; (with_reducible refine (CC.out _ HB2.out).mono ?_); rintro e w3 ⟨v', rfl, ho3, hb3⟩; obtain ⟨qa, qc, hv⟩ := own_form' ho3; subst hv; have HO3 := Lib.hid ho3; have HB3 := Lib.hid hb3; clear ho3 hb3)
  have HN3 := Lib.hid (show w.heap.size + 3 ≤ w3.heap.size by have := HB3.out.size; have := HS2.out; omega)
  have hX3 := Whole.new w3 32 #[.slice qa xs.length qc]
  have hb3 := (Below.refl w3.heap.size w3).alloc (Nat.le_refl _) (.cells #[.slice qa xs.length qc] 32)
  have hR3 : Reads (fun c => w.heap.size + 3 ≤ c ∧ c < w3.heap.size) w3 (.slice qa xs.length qc) (strs xs) := by
    have := (Reads.of_owns (show w3.ownsRow W2.heap.size 9 1 (.slice qa xs.length qc) (strs xs).length (strs xs) by rw [strs_len]; exact HO3.out)).there
    exact this.mono fun c hc => ⟨by have := hc.1.1; have := HS2.out; omega, hc.2⟩
  have HR3 := Lib.hid (hR3.keep (w' := w3.alloc (.cells #[.slice qa xs.length qc] 32)) fun c hc _ => hb3.block c hc.2)
  have hB3 : Below w.heap.size w (w3.alloc (.cells #[.slice qa xs.length qc] 32)) := below_of (HB2.out.trans (HB3.out.mono HB2.out.size)) hb3
  have HX0 := Lib.hid ((HX0.out.belowS HB3.out).alloc (.cells #[.slice qa xs.length qc] 32))
  have HX2 := Lib.hid ((HX2.out.belowS HB3.out).alloc (.cells #[.slice qa xs.length qc] 32))
  have HM0 := Lib.hid ((HM0.out.belowS HB3.out).belowS hb3)
  have HX3 := Lib.hid hX3
  have HB4 := Lib.hid hB3
  have hs3 : (w3.alloc (.cells #[.slice qa xs.length qc] 32)).heap.size = w3.heap.size + 1 := by simp
  have HS3 := Lib.hid hs3
  clear hX3 hb3 hR3 hB3 hs3 HO3 HB3 CC HB2
  generalize w3.alloc (.cells #[.slice qa xs.length qc] 32) = W3 at *
  go_upto_region 5 with fail
  have hX4 := Whole.new W3 86 #[fv (w.heap.size + 1 + 1) w3.heap.size w.heap.size W3.heap.size]
  have hb4 := (Below.refl W3.heap.size W3).alloc (Nat.le_refl _) (.cells #[fv (w.heap.size + 1 + 1) w3.heap.size w.heap.size W3.heap.size] 86)
  have HE := Lib.hid (show Env S (W3.alloc (.cells #[fv (w.heap.size + 1 + 1) w3.heap.size w.heap.size W3.heap.size] 86)) a b k g (w.heap.size + 1 + 1) w3.heap.size w.heap.size W3.heap.size (w.heap.size + 1) from
    ⟨(HH.out.below HB4.out).below hb4, HX2.out.belowS hb4, HX0.out.belowS hb4, hX4, fun hs => by have := HH.out.lt _ hs; omega⟩)
  have HME := Lib.hid (HM0.out.belowS hb4)
  have HR4 := Lib.hid (HR3.out.keep (w' := W3.alloc (.cells #[fv (w.heap.size + 1 + 1) w3.heap.size w.heap.size W3.heap.size] 86)) fun c hc hl => hb4.block c hl)
  have HX5 := Lib.hid (HX3.out.belowS hb4)
  have HB5 := Lib.hid (below_of HB4.out hb4)
  have HPV := Lib.hid (show w3.heap.size < W3.heap.size by have := HS3.out; omega)
  have HQL := Lib.hid (show xs.length ≤ qc ∧ qc ≤ maxLen from by
    obtain ⟨_, m1, m2⟩ := reads_len HR4.out
    exact ⟨m1, m2⟩)
  clear hX4 hb4 HR3 HX3 HB4 HX0 HX2 HM0 HS3 HS2
  generalize W3.alloc (.cells #[fv (w.heap.size + 1 + 1) w3.heap.size w.heap.size W3.heap.size] 86) = W4 at *
  generalize W3.heap.size = pv at *
  generalize w3.heap.size = pw at *
  clear hn0 hmm

  go_loopw [9] (fun _ wr => ∃ (j : Nat) (L : List Tx), Hid (j ≤ xs.length) ∧ Hid (Env S wr a b k g (w.heap.size + 1 + 1) pw w.heap.size pv (w.heap.size + 1)) ∧ Hid (ME wr (w.heap.size + 1) (memF L)) ∧ Hid (Wt g xs j L) ∧ Hid (Whole wr pw 32 #[.slice qa j qc]) ∧ Hid (Reads (fun c => w.heap.size + 3 ≤ c ∧ c < pw) wr (.slice qa xs.length qc) (strs xs)) ∧ Hid (Below w.heap.size w wr)) (fun _ wr => lenAt wr pw)
  case atStart => exact ⟨xs.length, [], Lib.hid (Nat.le_refl _), HE, HME, Lib.hid (Wt.start g xs), HX5, HR4, HB5⟩
  case round =>
    obtain ⟨j, L, HJ, HER, HMR, HWT, HXR, HRR, HBR⟩ := hrel
    have c6 := HXR.out.cell 0
    have HLA := Lib.hid (lenAt_of HXR.out)
    rcases j with _ | i
    · have c5 := HER.out.cs.cell 0
      go_wp2_with fail
      go_ret
      exact ⟨_, L, rfl, HMR.out, HWT.out.done, HBR.out⟩
    · have hi : i < xs.length := by have := HJ.out; omega
      obtain ⟨gq, off, hqa, q1, c7⟩ := reads_atG HRR.out (u := wr) (fun _ _ _ => rfl) hi
      subst hqa
      rw [strs_at hi] at c7
      obtain ⟨q2, q3⟩ := HQL.out
      have hxl := HXL.out
      have hi1 : (i : Int) + 1 ≤ qc := by omega
      have hi2 : (i : Int) + 1 ≤ 80000 := by omega
      have hic : i ≤ qc := by omega
      unfold maxLen at q3
      have hxm : xs.getD i [] ∈ xs := by rw [List.getD_eq_getElem?_getD, List.getElem?_eq_getElem hi]; exact List.getElem_mem hi
      have hpw0 := HXR.out.lt
      have hF5 : Fr (· = pw) wr (wr.setCell ⟨pw, 0, none⟩ (.slice (some ⟨gq, off, none⟩) i qc)) := (Fr.refl (· = pw) wr).set (p := ⟨pw, 0, none⟩) (Or.inl rfl) _
      have hE5 := HER.out
      have hpn := HN3.out
      have hpp := HPV.out
      have hE5 : Env S (wr.setCell ⟨pw, 0, none⟩ (.slice (some ⟨gq, off, none⟩) i qc)) a b k g (w.heap.size + 1 + 1) pw w.heap.size pv (w.heap.size + 1) :=
        ⟨hE5.pt.keep hF5.size fun c hc => hF5.block c (hE5.pt.lt c hc) (fun e => by have := HH.out.lt c hc; omega), hE5.cs.fr hF5 (by omega), hE5.cg.fr hF5 (by omega), hE5.cv.fr hF5 (by omega), hE5.no⟩
      have hM5 : ME (wr.setCell ⟨pw, 0, none⟩ (.slice (some ⟨gq, off, none⟩) i qc)) (w.heap.size + 1) (memF L) := HMR.out.same (hF5.block _ HMR.out.lt (by omega))
      have C := Lib.hid (visit_any (g.length + 1) _ (xs.getD i []) 0 L H3.out HG.out (by omega) hE5 hM5 HWT.out.seen (HXN.out _ hxm) (by omega) (by omega))
      have c8 := hE5.cv.cell 0
      have f6 := HXR.out.frozen 0
      have HX6 := Lib.hid (HXR.out.set_ 0 (.slice (some ⟨gq, off, none⟩) i qc))
      have HR6 := Lib.hid (HRR.out.keep (w' := wr.setCell ⟨pw, 0, none⟩ (.slice (some ⟨gq, off, none⟩) i qc)) fun c hc hl => hF5.block c hl (by omega))
      have HB6 := Lib.hid (HBR.out.trans (hF5.below (B := w.heap.size) HBR.out.size (fun c hc => by omega)))
      have HE5 := Lib.hid hE5
      have HM5 := Lib.hid hM5
      have HI := Lib.hid hi
      clear hF5 hE5 hM5 hxm hi q1 q2 hxl hpn hpp hpw0
      generalize bs (xs.getD i []) = y at *
      go_wp2_with (go_at_call 55; (with_reducible refine C.out.mono ?_); rintro e w6 ⟨rfl, L2, hv, hm6, hf6⟩; have HV := Lib.hid hv; have HM6 := Lib.hid hm6; have HF6 := Lib.hid hf6; clear hv hm6 hf6)
      have hx7 := HX6.out.fr HF6.out (by have := HN3.out; omega)
      have HX7 := Lib.hid hx7
      go_roundw
      case rel => exact ⟨i, L2, Lib.hid (by have := HJ.out; omega), Lib.hid (HE5.out.keep HM5.out HF6.out), HM6, Lib.hid (HWT.out.next HI.out HV.out), HX7, Lib.hid (HR6.out.keep fun c hc hl => HF6.out.block c hl (by omega)), Lib.hid (HB6.out.trans (HF6.out.below HB6.out.size (fun c hc => by omega)))⟩
      case measure => rw [lenAt_of HX7.out, HLA.out]; omega
end
end Go.Proofs.Ytijcojidfallkaa.GP
