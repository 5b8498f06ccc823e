/-
  Joined texts: SymPI, SymPJ. Nothing here is a statement of the seed.
-/
import Derived.Test.YtleggfofgpiabaaGreatSymCo
import Derived.Shelf.SlMaps.Clone
import Derived.Deep.RegionHeld3
import Derived.Test.YtleggfofgpiabaaGreatShelf
import Derived.Test.YtleggfofgpiabaaGreatSymPH
set_option linter.unusedSimpArgs false
set_option linter.unusedVariables false
/-
  The program's copies: a map, a list of texts. Nothing here is a statement of the seed.
-/
namespace Go.Proofs.YtleggfofgpiabaaGreat.SP
open Go.RowKit WM NR OM OR SM SR MV
set_option maxHeartbeats 4000000
set_option maxRecDepth 10000
theorem mclone_any {w : World} {b : Nat} {f : List UInt8 → Option Value} (h : ME w b f) :
    Calls Tryz.prog 30 #[.map (some b)] w fun e u => e = .returned (.map (some w.heap.size)) ∧ ME u w.heap.size f ∧ Below w.heap.size w u := by
  obtain ⟨D, ⟨es, clock, hb, F, hs, hD⟩, ht⟩ := h
  have hlt : b < w.heap.size := (Array.getElem?_eq_some_iff.1 hb).1
  have HB : Below w.heap.size w (w.alloc (.map es clock)) := (Below.refl _ w).alloc (Nat.le_refl _) _
  have R := Lib.hid (show ME (w.alloc (.map es clock)) w.heap.size f ∧ Below w.heap.size w (w.alloc (.map es clock)) from ⟨⟨D, ⟨es, clock, (MapKept.heap_alloc w _).1, F, hs, hD⟩, ht⟩, HB⟩)
  have hq : ∀ u, (binOp .eql 53 (.map (some b)) (.map none)).run Tryz.prog u = .ok (.bool false) u := fun u => run_eql_map_nil_sl u 53 _ _ (some b) Tryz.underlying53
  have h1 : (callFunc 44 #[.iface 53 (.map (some b))]).run Tryz.prog w = .ok (.value (.iface 53 (.map (some w.heap.size)))) (w.alloc (.map es clock)) := by
    rw [run_callFunc_extern Tryz.func44 (by kernel_rfl) (by kernel_rfl) (by kernel_rfl) (e := Extern.MapsClone.clone) (by kernel_rfl), run_maps_clone_sl w 53 hb]
    rfl
  have h2 := fun u => run_typeAssert_map_sl (P := Tryz.prog) u 53 20 _ _ (.map (some w.heap.size)) Tryz.underlying53
  clear hb F hs hD ht HB
  go_enter Tryz.func30, Tryz.ntmps30
  go_wp2_with fail
  go_ret
  exact ⟨rfl, R.out⟩
theorem sclone_any {G : Nat → Prop} {w : World} {a : Option Addr} {n c : Nat} {ns : List (List UInt8)} (h : Reads G w (.slice a n c) (strs ns)) (hn : ns.length ≤ 80000) :
    Calls Tryz.prog 31 #[.slice a n c] w fun e u => ∃ v', e = .returned v' ∧ u.ownsRow w.heap.size 9 1 v' ns.length (strs ns) ∧ Below w.heap.size w u := by
  obtain ⟨a', cap, e, h1, h2, h3, h4⟩ := h
  simp only [Value.slice.injEq] at e
  obtain ⟨rfl, rfl, rfl⟩ := e
  have hl : (strs ns).length = ns.length := by rw [strs_len]
  rw [hl] at h1 ⊢
  by_cases h0 : ns = []
  · subst h0
    cases a with
    | none => exact (Tryz.slices_Clone_string_nil 0 c w).mono fun e u ⟨h1, h2⟩ => ⟨_, h1, World.ownsRow_nil _ _ _ _, by subst h2; exact Below.refl _ _⟩
    | some p => exact (Tryz.slices_Clone_string_zero p c w).mono fun e u ⟨v', h1, h2, _, h3⟩ => ⟨v', h1, h2, h3⟩
  · rcases h4 with h4 | ⟨g, off, rfl, _, hc⟩
    · exact absurd (List.length_eq_zero_iff.1 (by rw [← hl, h4]; rfl)) h0
    · refine (Tryz.slices_Clone_string g off ns.length c (ns.map bs) w (by simp) (by omega) (fun j hj => ?_)).mono fun e u ⟨v', h1, h2, _, h3⟩ => ⟨v', h1, ?_, h3⟩
      · rw [List.length_map] at hj
        rw [hc j (by omega), strs_at hj]
        simp [List.getD_eq_getElem?_getD, hj]
      · have : (List.take ns.length (ns.map bs)).map Value.string = strs ns := by rw [← List.map_take, List.take_length]; simp [strs]
        rw [this] at h2
        exact h2
end Go.Proofs.YtleggfofgpiabaaGreat.SP

/-
  The program's Fork. Nothing here is a statement of the seed.
-/
namespace Go.Proofs.YtleggfofgpiabaaGreat.SP
open Go.RowKit WM NR OM OR SM SR MV
set_option maxHeartbeats 4000000
set_option maxRecDepth 10000
/-- the map of modules, of modules that there are alone -/
def fmC (fm : List UInt8 → Option Value) (t : Tb) (s : List UInt8) : Option Value := if s ∈ t.mods then fm s else none
abbrev mkS (x : Option Addr × Nat × Nat) : Value := .slice x.1 x.2.1 x.2.2
theorem fmC_mk {G : Nat → Prop} {u : World} {fm : List UInt8 → Option Value} {t : Tb} (h : ModI G u fm t) (hz : ∀ m ∈ t.mods, m.length ≤ maxLen) (s : List UInt8) (v : Value) (hv : fmC fm t s = some v) : ∃ c, v = mkS c := by
  unfold fmC at hv
  split at hv
  · next hm =>
    obtain ⟨a, n, c, _, h1, _⟩ := (h s (hz s hm)).1 hm
    rw [h1] at hv
    exact ⟨(a, n, c), (Option.some.inj hv).symm⟩
  · cases hv
/-- what has been copied of the modules -/
structure FkI (B : Nat) (t : Tb) (left : List UInt8 → Bool) (fn : List UInt8 → Option Value) (u : World) : Prop where
  got : ∀ m ∈ t.mods, left m = false → ∃ a n c names, fn m = some (.slice a n c) ∧ Reads (B < ·) u (.slice a n c) (strs names) ∧ names.Perm (nmsOf t.L m)
  no : ∀ m, (fn m).isSome = true → m ∈ t.mods
theorem FkI.keep {B : Nat} {t : Tb} {left : List UInt8 → Bool} {fn : List UInt8 → Option Value} {u u' : World} (h : FkI B t left fn u) (hk : ∀ g, B < g → g < u.heap.size → u'.heap[g]? = u.heap[g]?) : FkI B t left fn u' :=
  ⟨fun m hm hl => by
    obtain ⟨a, n, c, names, h1, h2, h3⟩ := h.got m hm hl
    exact ⟨a, n, c, names, h1, h2.keep hk, h3⟩, h.no⟩
theorem FkI.put {B : Nat} {t : Tb} {left : List UInt8 → Bool} {fn : List UInt8 → Option Value} {u : World} (h : FkI B t left fn u) {s : List UInt8} (hs : s ∈ t.mods) {a : Option Addr} {n c : Nat} {names : List (List UInt8)} (hr : Reads (B < ·) u (.slice a n c) (strs names)) (hp : names.Perm (nmsOf t.L s)) :
    FkI B t (fun x => left x && !decide (x = s)) (fun x => if x = s then some (.slice a n c) else fn x) u :=
  ⟨fun m hm hl => by
    by_cases e : m = s
    · subst e
      exact ⟨a, n, c, names, if_pos rfl, hr, hp⟩
    · simp [e] at hl
      obtain ⟨a', n', c', names', h1, h2⟩ := h.got m hm hl
      exact ⟨a', n', c', names', by show (if m = s then _ else fn m) = _; rw [if_neg e, h1], h2⟩, fun m hm => by
    by_cases e : m = s
    · rw [e]; exact hs
    · exact h.no m (by rw [show (if m = s then some (Value.slice a n c) else fn m) = fn m from if_neg e] at hm; exact hm)⟩
theorem fork_any {S : Nat → Prop} {w : World} {v : Value} {t : Tb} (h : PT S w v t) (hg : SM.Good t) (hb : t.mods.length ≤ 10000 ∧ t.L.length ≤ 80000) :
    Calls Tryz.prog 13 #[v] w fun e u => ∃ v2 S2, e = .returned v2 ∧ PT S2 u v2 t ∧ (∀ g, S2 g → w.heap.size ≤ g) ∧ Below w.heap.size w u := by
  obtain ⟨a, be, bm, fm, rfl, h⟩ := h
  have HH := Lib.hid h
  have HG := Lib.hid hg
  have HB := Lib.hid hb
  have hmm := @run_makeMap Tryz.prog
  have hal := h.hd.lt
  have hbm := h.lt bm h.sm
  have c0 := h.cell0
  have C1 := Lib.hid (mclone_any h.en)
  clear h hg hb
  go_enter Tryz.func13, Tryz.ntmps13
  go_upto_region 4 with (go_at_call 30; (with_reducible refine C1.out.mono ?_); rintro e w1 ⟨rfl, he1, hb1⟩; have HE1 := Lib.hid he1; have HB1 := Lib.hid hb1; clear he1 hb1)
  have hb2 : Below w1.heap.size w1 ((w1.alloc (.map #[] 0)).alloc (.cells #[.map (some w.heap.size), .map (some w1.heap.size)] 56)) := ((Below.refl _ _).alloc (Nat.le_refl _) _).alloc (by simp) _
  have he0 := HE1.out.belowS hb2
  have hm0 : ME ((w1.alloc (.map #[] 0)).alloc (.cells #[.map (some w.heap.size), .map (some w1.heap.size)] 56)) w1.heap.size (fun _ => none) := (MapV.made w1).belowS ((Below.refl _ _).alloc (Nat.le_refl _) _)
  have hx0 := Whole.new (w1.alloc (.map #[] 0)) 56 #[.map (some w.heap.size), .map (some w1.heap.size)]
  rw [World.size_alloc] at hx0
  have hs0 : ((w1.alloc (.map #[] 0)).alloc (.cells #[.map (some w.heap.size), .map (some w1.heap.size)] 56)).heap.size = w1.heap.size + 2 := by simp
  have hb0 := HB1.out.trans (hb2.mono HB1.out.size)
  have hN : w.heap.size < w1.heap.size := HE1.out.lt
  clear hb2
  generalize (w1.alloc (.map #[] 0)).alloc (.cells #[.map (some w.heap.size), .map (some w1.heap.size)] 56) = W0 at *
  clear HE1 HB1 C1
  generalize w1.heap.size = N at *
  have hPT := HH.out.below hb0
  have hcc : ∀ s, s.length ≤ maxLen → fm s = fmC fm t s := fun s hs => by
    unfold fmC
    by_cases hi : s ∈ t.mods
    · rw [if_pos hi]
    · rw [if_neg hi, (HH.out.mi s hs).2 hi]
  have c1 := hPT.cell1
  obtain ⟨w2, cnt0, hr, hR, hb1, hs1⟩ := (hPT.md.as hcc).range Tryz.underlying9 Tryz.underlying54
  have HR0 := Lib.hid hR
  have HX1 := Lib.hid (hx0.belowS hb1)
  have HE1 := Lib.hid (he0.belowS hb1)
  have HM1 := Lib.hid (hm0.belowS hb1)
  have HB1 := Lib.hid (hb0.trans (hb1.mono (by omega)))
  clear hR hb1 hs1 hb0 hx0 he0 hm0 hPT hcc
  go_wp2_with fail
  clear hr c1
  generalize W0.heap.size = r0 at hs0 HR0 ⊢
  subst hs0
  go_loopw [21] (fun _ wr => ∃ (left : List UInt8 → Bool) (cnt : Nat) (fn : List UInt8 → Option Value), Hid (RangeV Tryz.prog 9 any wr bm (N + 2) (fmC fm t) left cnt) ∧ Hid (Below w.heap.size w wr) ∧ Hid (Whole wr (N + 1) 56 #[.map (some w.heap.size), .map (some N)]) ∧ Hid (ME wr w.heap.size (entF t.L)) ∧ Hid (ME wr N fn) ∧ Hid (FkI (N + 2) t left fn wr)) (fun _ wr => wr.rangeLeft bm (N + 2))
  case atStart => exact ⟨_, cnt0, _, HR0, HB1, HX1, HE1, HM1, Lib.hid ⟨fun m hm hl => by
    obtain ⟨a, n, c, _, h1, _⟩ := (HH.out.mi m (HH.out.zm m hm)).1 hm
    exact absurd hl (by simp [fmC, hm, h1]), fun m hm => by simp at hm⟩⟩
  case round =>
    obtain ⟨left, cnt, fn, HRG, HFB, HX, HE, HM, HF⟩ := hrel
    go_wp2_with (at_next; refine wpList_next_V rfl _ rfl Tryz.underlying9 mkS (fmC_mk HH.out.mi HH.out.zm) rfl HRG.out ?_ ?_)
    · intro hl0
      have HL0 := Lib.hid hl0
      clear hl0
      go_wp2_with fail
      go_ret
      refine ⟨_, fun g => w.heap.size ≤ g ∧ g < wr.heap.size, rfl, ⟨_, _, _, fn, rfl, ⟨HX.out, HE.out, HM.out, fun m hm => ⟨fun hi => ?_, fun hi => ?_⟩, by omega, ⟨by omega, HX.out.lt⟩, ⟨Nat.le_refl _, HE.out.lt⟩, ⟨by omega, HM.out.lt⟩, fun g hg => hg.2, HH.out.zn, HH.out.zm⟩⟩, fun g hg => hg.1, HFB.out⟩
      · obtain ⟨a', n', c', names, h1, h2, h3⟩ := HF.out.got m hi (HL0.out m hm)
        exact ⟨a', n', c', names, h1, h2.there.mono fun g hg => ⟨⟨by have := hg.1; omega, hg.2⟩, by have := hg.1; omega, by have := hg.1; omega⟩, h3⟩
      · cases hx : fn m with
        | none => rfl
        | some x => exact absurd (HF.out.no m (by rw [hx]; rfl)) hi
    · intro s ea en ec w3 cnt3 hs hlk hf hrg hlt3 hg3 hsz3 hen
      have hsm : s ∈ t.mods := by
        unfold fmC at hf
        split at hf
        · assumption
        · cases hf
      have hfs : fm s = some (.slice ea en ec) := by
        rw [fmC, if_pos hsm] at hf
        exact hf
      obtain ⟨sa, sn, sc, names, h1, h2, h3⟩ := (HH.out.mi s hs).1 hsm
      rw [hfs] at h1
      have he := Option.some.inj h1
      simp only [mkS] at hen
      rw [he] at hen
      have hnl : names.length ≤ 80000 := by
        rw [h3.length_eq]
        unfold nmsOf
        rw [List.length_map]
        exact Nat.le_trans (List.length_filter_le _ _) HB.out.2
      have C := Lib.hid (fun (u : World) (hu : Below w.heap.size w u) => sclone_any (h2.keep (w' := u) fun g hg _ => hu.block g (HH.out.lt g hg.1)) hnl)
      have hrl := hrg.lt
      have hx3 := HX.out.as (hg3.block (N + 1) HX.out.lt (fun e => by have := Option.some.inj e; omega))
      have he3 := HE.out.kept hg3 (fun e => by have := Option.some.inj e; omega)
      have hm3 := HM.out.kept hg3 (fun e => by have := Option.some.inj e; omega)
      have hf3 := HF.out.keep (u' := w3) (fun g hg hgl => hg3.block g hgl (fun e => by have := Option.some.inj e; omega))
      have hB3 := HFB.out.grown hg3 HFB.out.size (fun j hj => by cases hj; omega)
      have hsz : w.heap.size ≤ w3.heap.size := hB3.size
      have HRG3 := Lib.hid hrg
      have HX3 := Lib.hid hx3
      have HE3 := Lib.hid he3
      have HF3 := Lib.hid hf3
      have HB3 := Lib.hid hB3
      have HS := Lib.hid hsm
      have HP := Lib.hid h3
      have HBd := Lib.hid (hB3.trans (((Below.refl w3.heap.size w3).drew).mono hsz))
      have PU := Lib.hid (fun (u : World) (v : Value) (hu : Below w3.heap.size w3 u) => (hm3.belowS hu).put Tryz.underlying9 Tryz.underlying54 (l := t.mods) (fun s _ h => hf3.no s h) (by have := HB.out; unfold maxLen; omega) (s := s) hs (v := v) rfl)
      have HK := Lib.hid (fun (u : World) (hu : Below w3.heap.size w3 u) => show u.cell? ⟨N + 1, 1, none⟩ = some (.map (some N)) from (hx3.belowS hu).cell 1)
      clear hs hlk hf hrg hg3 hsz3 hsm hfs h1 h2 h3 he hnl hx3 he3 hm3 hf3 hB3
      go_upto_region 7 with fail
      have hW : Below w3.heap.size w3 w3.drew := (Below.refl _ _).drew
      have K0 := HK.out _ hW
      go_region_held3 (fun u => u.cell? ⟨N + 1, 1, none⟩ = some (.map (some N)))
        (first | with_reducible exact K0 | with_reducible exact K1 | with_reducible exact K2)
        (first | (go_at_call 31; (with_reducible refine (C.out _ HBd.out).mono ?_); rintro e w5 ⟨v', rfl, ho5, hb5⟩; have hB5 := below_of hW hb5; have K1 := HK.out _ hB5; obtain ⟨w6, hr6, hm6, hg6⟩ := PU.out w5 v' hB5; have K2 : w6.cell? ⟨N + 1, 1, none⟩ = some (.map (some N)) := (World.cell?_of_block (a := ⟨N + 1, 1, none⟩) (hg6.block (N + 1) (World.block_lt_of_cell? w5 _ K1) (fun e => by have := Option.some.inj e; omega))).trans K1))
      rename_i hHeld
      clear hHeld
      obtain ⟨va, vc, hv⟩ := own_form ho5
      subst hv
      have hb5 := hB5.size
      have hbd : w3.drew.heap.size = w3.heap.size := rfl
      have hRd : Reads (N + 2 < ·) w6 (.slice va names.length vc) (strs names) := ((Reads.of_owns ho5).keep (w' := w6) (fun g hg hgl => hg6.block g hgl (fun e => by have h1 := Option.some.inj e; have h2 := hg.1; rw [hbd] at h2; omega))).mono (fun g hg => by have h2 := hg.1; rw [hbd] at h2; omega)
      have HRG6 := Lib.hid ((HRG3.out.belowS hB5).kept hg6 (fun e => by have := Option.some.inj e; omega) (fun e => by have := Option.some.inj e; omega))
      have hB6 := HB3.out.trans (hB5.mono hsz)
      have HB6 := Lib.hid (hB6.grown hg6 hB6.size (fun j hj => by cases hj; omega))
      have hx5 := HX3.out.belowS hB5
      have HX6 := Lib.hid (hx5.as (hg6.block (N + 1) hx5.lt (fun e => by have := Option.some.inj e; omega)))
      have HE6 := Lib.hid ((HE3.out.belowS hB5).kept hg6 (fun e => by have := Option.some.inj e; omega))
      have HM6 := Lib.hid hm6
      have HF6 := Lib.hid (((HF3.out.keep (u' := w5) (fun g _ hgl => hB5.block g hgl)).keep (u' := w6) (fun g hg hgl => hg6.block g hgl (fun e => by have := Option.some.inj e; omega))).put HS.out hRd HP.out)
      clear hRd hB6 hx5 hm6 hg6 ho5 hr6 K0 K1 K2
      go_wp2_with fail
      go_roundw
      case rel => exact ⟨_, cnt3, _, HRG6, HB6, HX6, HE6, HM6, HF6⟩
      case measure => rw [HRG6.out.left_eq, HRG.out.left_eq]; omega
end Go.Proofs.YtleggfofgpiabaaGreat.SP
