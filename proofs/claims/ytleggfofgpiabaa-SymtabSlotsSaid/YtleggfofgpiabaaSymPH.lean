/-
  The program's List. Nothing here is a statement of the seed.
-/
import Derived.Test.YtleggfofgpiabaaSymPE
set_option linter.unusedSimpArgs false
set_option linter.unusedVariables false
namespace Go.Proofs.Ytleggfofgpiabaa.SP
open Go.RowKit WM NR OM OR SM SR MV
set_option maxHeartbeats 4000000
set_option maxRecDepth 10000
theorem infoEnt : (Try.prog.info? 33).map (fun i => (i.zero, i.size, i.bytes)) = some (some zE, 5, 56) := by kernel_rfl
theorem grown_set (w : World) (p : Nat) (i : Nat) (u : Value) : w.grownBy (w.setCell ⟨p, i, none⟩ u) (some p) :=
  ⟨rfl, rfl, rfl, by simp, fun g hg hr => Below.heap_setCell _ _ _ _ (fun e => hr (by rw [e]))⟩
theorem entF_all (l : List En) : AllE (entF l) := by
  intro s v h
  by_cases hp : plc l s < 0
  · rw [entF_none hp] at h; cases h
  · rw [entF_some hp] at h; exact ⟨_, (Option.some.inj h).symm⟩
theorem own_form {w : World} {B : Nat} {e : TypeId} {size n : Nat} {v : Value} {xs : List Value} (h : w.ownsRow B e size v n xs) : ∃ a c, v = .slice a n c := by
  rcases h.2 with ⟨rfl, rfl⟩ | ⟨g, cap, cur, rfl, _⟩
  · exact ⟨none, 0, rfl⟩
  · exact ⟨_, cap, rfl⟩
theorem own_set {w : World} {B : Nat} {e : TypeId} {size n : Nat} {v : Value} {xs : List Value} (h : w.ownsRow B e size v n xs) {p i : Nat} (hp : p < B) (u : Value) : (w.setCell ⟨p, i, none⟩ u).ownsRow B e size v n xs :=
  h.kept (grown_set w p i u) (by
    cases hv : v.ownBlock with
    | none => exact Or.inl rfl
    | some g =>
      refine Or.inr fun hh => ?_
      have h1 := (h.lt g hv).1
      have h2 := Option.some.inj hh
      omega)
theorem eC_enC (e : En) : eC [e] = enC e := rfl
theorem list_any {S : Nat → Prop} {w : World} {v : Value} {t : Tb} (h : PT S w v t) (hg : SM.Good t) (hb : t.mods.length ≤ 10000 ∧ t.L.length ≤ 80000) :
    Calls Try.prog 6 #[v] w fun e u => ∃ a c, e = .returned (.slice a t.L.length c) ∧ u.ownsRow w.heap.size 33 5 (.slice a t.L.length c) t.L.length (eC t.L) ∧ c ≤ maxLen ∧ Below w.heap.size w u := by
  obtain ⟨i0, hi, hz0, hz1, hz2⟩ := info_parts infoEnt
  obtain ⟨a, be, bm, fm, rfl, h⟩ := h
  have hu := srt_uniq hg.srt
  have HH := Lib.hid h
  have HG := Lib.hid hg
  have HU := Lib.hid hu
  have HB := Lib.hid hb
  have hal := HH.out.hd.lt
  have hbe := HH.out.lt be HH.out.sb
  have hn0 : (zeroValue TL).run Try.prog w = .ok (.slice none 0 0) w := by kernel_rfl
  clear h hg hu hb
  go_enter Try.func6, Try.ntmps6
  go_upto_region 4 with fail
  have hb0 : Below w.heap.size w (w.alloc (.cells #[.slice none 0 0] TL)) := (Below.refl _ _).alloc (Nat.le_refl _) _
  have hx0 : Whole (w.alloc (.cells #[.slice none 0 0] TL)) w.heap.size TL #[.slice none 0 0] := Whole.new _ _ _
  have hs0 : (w.alloc (.cells #[.slice none 0 0] TL)).heap.size = w.heap.size + 1 := by simp
  generalize w.alloc (.cells #[.slice none 0 0] TL) = W0 at *
  have HB0 := Lib.hid hb0
  have HX0 := Lib.hid hx0
  have c0 := (HH.out.below hb0).cell0
  obtain ⟨w1, cnt0, hr, hR, hb1, hs1⟩ := ((HH.out.below hb0).en).range Try.underlying9 Try.underlying36
  have HR0 := Lib.hid hR
  have HX1 := Lib.hid (hx0.belowS hb1)
  have HB1 := Lib.hid (hb0.trans (hb1.mono (by omega)))
  clear hR hb1 hs1 hb0 hx0
  go_wp2_with fail
  clear hr c0
  generalize W0.heap.size = r0 at hs0 HR0 ⊢
  subst hs0
  go_loopw [13] (fun _ wr => ∃ (left : List UInt8 → Bool) (cnt : Nat) (c : List En) (q : Value), Hid (RangeV Try.prog 9 any wr be (w.heap.size + 1) (entF t.L) left cnt) ∧ Hid (Below w.heap.size w wr) ∧ Hid (Whole wr w.heap.size TL #[q]) ∧ Hid (wr.ownsRow (w.heap.size + 2) TE 5 q c.length (eC c)) ∧ Hid (Col t.L left c)) (fun _ wr => wr.rangeLeft be (w.heap.size + 1))
  case atStart => exact ⟨_, cnt0, [], _, HR0, HB1, HX1, Lib.hid (World.ownsRow_nil _ _ _ _), Lib.hid (Col.start HU.out)⟩
  case round =>
    obtain ⟨left, cnt, c, q, HRG, HFB, HX, HO, HC⟩ := hrel
    go_wp2_with (at_next; refine wpList_next_V rfl _ rfl Try.underlying9 enV (entF_all t.L) rfl HRG.out ?_ ?_)
    · intro hl0
      have HP := Lib.hid (HC.out.done HU.out HH.out.zn hl0)
      clear hl0
      have C := Lib.hid (sortE HG.out HB.out.2 HH.out.zn HP.out (base := w.heap.size + 2) (by omega) HX.out HO.out)
      have kx := HX.out.cell 0
      go_wp2_with (go_at_call 15; (with_reducible refine C.out.mono ?_); rintro e w5 ⟨rfl, hx5, ho5, hg5⟩; have HX5 := Lib.hid hx5; have HO5 := Lib.hid ho5; have HG5 := Lib.hid hg5; have kx5 := hx5.cell 0; clear hx5 ho5 hg5)
      go_ret
      have hbl := HFB.out.grown HG5.out HFB.out.size (fun j hj => by have := (HO.out.lt j hj).1; omega)
      rcases HO5.out.2 with ⟨rfl, h0⟩ | ⟨g, cap, cur, rfl, _, _, _, hcm, _⟩
      · exact ⟨none, 0, by rw [h0]; rfl, by have := owns_base HO5.out (B' := w.heap.size) (by omega); rw [h0] at this ⊢; exact this, by simp [maxLen], hbl⟩
      · exact ⟨_, cap, rfl, owns_base HO5.out (by omega), hcm, hbl⟩
    · intro s e w2 cnt2 hs hlk hf hrg hlt2 hg2 hsz2 hen
      have HC2 := Lib.hid (HC.out.next HU.out hlk hf)
      have hcl := HC2.out.len HU.out
      rw [List.length_append, List.length_singleton] at hcl
      have hL := HB.out.2
      have hnm : c.length + 1 ≤ maxLen := by unfold maxLen; omega
      have hn56 : (c.length + 1) * 56 ≤ 140737488355328 := by omega
      have hsz : w.heap.size ≤ w2.heap.size := by rw [hsz2]; exact HFB.out.size
      have hrl := hrg.lt
      have hx2 := HX.out.as (hg2.block w.heap.size HX.out.lt (fun e => by have := Option.some.inj e; omega))
      have hown := HO.out.kept hg2 (by
        by_cases hv : q.ownBlock = none
        · exact Or.inl hv
        · right
          intro e
          have := (HO.out.lt _ e).1
          omega)
      have hB2 := HFB.out.grown hg2 HFB.out.size (fun j hj => by cases hj; omega)
      have HX2 := Lib.hid hx2
      have HRG2 := Lib.hid hrg
      have HB2 := Lib.hid hB2
      have kx := ((hx2.alloc (.cells #[.string (bs e.nm), .string (bs e.md), .int .i64 e.gate, .int .i64 e.idx, .int .i64 e.refs] TE))).cell 0
      clear hs hlk hf hrg hg2 hx2 hB2 hcl hL hsz2
      obtain ⟨e1, e2, e3, e4, e5⟩ := e
      simp only [enV] at hen kx
      go_wp2_with (at_builtin; refine wpList_append_own _ rfl _ _ 28 rfl (w.heap.size + 2) 33 i0 zE 5 56 Try.underlying28 hi hz0 hz1 hz2 rfl (by decide) _ _ _ rfl ((hown.alloc _).alloc _) ⟨w2.heap.size + 1, 0, none⟩ 1 1 (enC ⟨e1, e2, e3, e4, e5⟩) rfl rfl ?c1 ?c2 hnm hn56 ?c5 ?_)
      case c1 =>
        intro j u hu
        have hw := (Whole.new (w2.alloc (.cells #[.string (bs e1), .string (bs e2), .int .i64 e3, .int .i64 e4, .int .i64 e5] TE)) TE #[.string (bs e1), .string (bs e2), .int .i64 e3, .int .i64 e4, .int .i64 e5]).cell j
        have hs : (w2.alloc (.cells #[.string (bs e1), .string (bs e2), .int .i64 e3, .int .i64 e4, .int .i64 e5] TE)).heap.size = w2.heap.size + 1 := by simp
        rw [hs] at hw
        have e1 : ((⟨w2.heap.size + 1, 0, none⟩ : Addr).add j) = ⟨w2.heap.size + 1, j, none⟩ := by rw [Addr.add_lit, Nat.zero_add]
        rw [e1, hw]
        simpa using hu
      case c2 => intro u hu; exact eC_one [⟨e1, e2, e3, e4, e5⟩] u hu
      case c5 => simp; omega
      intro v' w3 hown3 hgrow _
      obtain ⟨ra, rc, hv'⟩ := own_form hown3
      subst hv'
      have hb3 : Below w2.heap.size w2 ((w2.alloc (.cells #[.string (bs e1), .string (bs e2), .int .i64 e3, .int .i64 e4, .int .i64 e5] TE)).alloc (.cells #[.string (bs e1), .string (bs e2), .int .i64 e3, .int .i64 e4, .int .i64 e5] TE)) := ((Below.refl _ _).alloc (Nat.le_refl _) _).alloc (by simp) _
      have hql : ∀ j, q.ownBlock = some j → w.heap.size + 2 ≤ j := fun j hj => (hown.lt j hj).1
      have hqx : some w.heap.size ≠ q.ownBlock := fun e => by have := hql _ e.symm; omega
      have hqr : some (w.heap.size + 1) ≠ q.ownBlock := fun e => by have := hql _ e.symm; omega
      have hqb : some be ≠ q.ownBlock := fun e => by have := hql _ e.symm; omega
      have hx3 : Whole w3 w.heap.size TL #[q] := (HX2.out.belowS hb3).as (hgrow.block w.heap.size (HX2.out.belowS hb3).lt hqx)
      have HX3 := Lib.hid hx3
      have kx3 := hx3.cell 0
      have kf3 := hx3.frozen 0
      have HRG3 := Lib.hid (((HRG2.out.belowS hb3).kept hgrow hqb hqr).kept (grown_set w3 w.heap.size 0 (.slice ra (c.length + 1) rc)) (fun e => by have := Option.some.inj e; omega) (fun e => by have := Option.some.inj e; omega))
      have hB3 := (HB2.out.trans (hb3.mono hsz)).grown hgrow (by have := hb3.size; omega) (fun j hj => by have := hql j hj; omega)
      have HB3 := Lib.hid (hB3.grown (grown_set w3 w.heap.size 0 (.slice ra (c.length + 1) rc)) hB3.size (fun j hj => by cases hj; exact Nat.le_refl _))
      have HO3 := Lib.hid (show (w3.setCell ⟨w.heap.size, 0, none⟩ (.slice ra (c.length + 1) rc)).ownsRow (w.heap.size + 2) TE 5 (.slice ra (c.length + 1) rc) (c ++ [(⟨e1, e2, e3, e4, e5⟩ : En)]).length (eC (c ++ [(⟨e1, e2, e3, e4, e5⟩ : En)])) by
        rw [eC_append, List.length_append]
        exact own_set hown3 (by omega) _)
      have HX4 := Lib.hid (hx3.set_ 0 (.slice ra (c.length + 1) rc))
      clear hown hown3 hgrow hb3 hql hqx hqr hqb hx3 hB3
      go_wp2_with fail
      go_roundw
      case rel => exact ⟨_, cnt2, _, _, HRG3, HB3, HX4, HO3, HC2⟩
      case measure => rw [HRG3.out.left_eq, HRG.out.left_eq]; omega
end Go.Proofs.Ytleggfofgpiabaa.SP
