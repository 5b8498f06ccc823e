/-
  The program's Fork. Nothing here is a statement of the seed.
-/
import Derived.Test.YtijcojidfallkaaGraphPE
import Derived.Shelf.SlMaps.Clone
set_option linter.unusedSimpArgs false
set_option linter.unusedVariables false
namespace Go.Proofs.Ytijcojidfallkaa.GP
open Go.RowKit WM NR OM OR GM GR MV
set_option maxHeartbeats 4000000
set_option maxRecDepth 10000
theorem mclone_any {w : World} {b : Nat} {f : List UInt8 → Option Value} (h : ME w b f) :
    Calls Try.prog 33 #[.map (some b)] w fun e u => e = .returned (.map (some w.heap.size)) ∧ ME u w.heap.size f ∧ Below w.heap.size w u := by
  obtain ⟨D, ⟨es, clock, hb, F, hs, hD⟩, ht⟩ := h
  have hlt : b < w.heap.size := (Array.getElem?_eq_some_iff.1 hb).1
  have HB : Below w.heap.size w (w.alloc (.map es clock)) := (Below.refl _ w).alloc (Nat.le_refl _) _
  have R := Lib.hid (show ME (w.alloc (.map es clock)) w.heap.size f ∧ Below w.heap.size w (w.alloc (.map es clock)) from ⟨⟨D, ⟨es, clock, (MapKept.heap_alloc w _).1, F, hs, hD⟩, ht⟩, HB⟩)
  have hq : ∀ u, (binOp .eql 57 (.map (some b)) (.map none)).run Try.prog u = .ok (.bool false) u := fun u => run_eql_map_nil_sl u 57 _ _ (some b) Try.underlying57
  have h1 : (callFunc 51 #[.iface 57 (.map (some b))]).run Try.prog w = .ok (.value (.iface 57 (.map (some w.heap.size)))) (w.alloc (.map es clock)) := by
    rw [run_callFunc_extern Try.func51 (by kernel_rfl) (by kernel_rfl) (by kernel_rfl) (e := Extern.MapsClone.clone) (by kernel_rfl), run_maps_clone_sl w 57 hb]
    rfl
  have h2 := fun u => run_typeAssert_map_sl (P := Try.prog) u 57 20 _ _ (.map (some w.heap.size)) Try.underlying57
  clear hb F hs hD ht HB
  go_enter Try.func33, Try.ntmps33
  go_wp2_with fail
  go_ret
  exact ⟨rfl, R.out⟩
/-- what has been copied -/
def forkF (left : List UInt8 → Bool) (kn : Tx → Nat) (g : List Nd) (s : Tx) : Option Value := if hasM g s = true ∧ left s = false then some (.map (some (kn s))) else none
theorem forkF_put {left : List UInt8 → Bool} {kn : Tx → Nat} {g : List Nd} {s : Tx} (hs : hasM g s = true) (q : Nat) (x : Tx) : (if x = s then some (Value.map (some q)) else forkF left kn g x) = forkF (fun x => left x && !decide (x = s)) (fun x => if x = s then q else kn x) g x := by
  unfold forkF
  by_cases e : x = s
  · subst e
    simp [hs]
  · simp [e]
section
variable {S : Nat → Prop} {w u : World} {a b : Nat} {k : Tx → Nat} {g : List Nd}
theorem fork_any {v : Value} (h : PT S w v g) (hg : GM.Good g) (hb : g.length ≤ 100) :
    Calls Try.prog 13 #[v] w fun e u => ∃ v2 S2, e = .returned v2 ∧ PT S2 u v2 g ∧ (∀ b, S2 b → w.heap.size ≤ b) ∧ Below w.heap.size w u := by
  obtain ⟨a, b, k, rfl, h⟩ := h
  have HH := Lib.hid h
  have HG := Lib.hid hg
  have HBD := Lib.hid hb
  have C1 := Lib.hid (new_any w)
  clear h hg hb
  go_enter Try.func13, Try.ntmps13
  go_upto_region 4 with (go_at_call 10; (with_reducible refine C1.out.mono ?_); rintro e w1 ⟨v2, S2, rfl, ⟨a2, b2, k2, rfl, hp2⟩, hs2, hb1⟩; have HP2 := Lib.hid hp2; have HS2 := Lib.hid hs2; have HB1 := Lib.hid hb1; clear hp2 hs2 hb1)
  have hP := HH.out.below HB1.out
  have c0 := hP.cell0
  obtain ⟨w2, cnt0, hr, hR, hb2, hs2⟩ := hP.md.range Try.underlying9 (T := 50) Try.underlying50
  have HR0 := Lib.hid hR
  have HX0 := Lib.hid (HP2.out.hd.belowS hb2)
  have HM0 := Lib.hid ((HP2.out.md.belowS hb2).as (g := forkF (fun s => (nodF k g s).isSome) (fun _ => 0) g) (fun s _ => by
    rw [nodF_no (by simp [hasM, plc])]
    unfold forkF
    simp only [nodF_isSome]
    rw [if_neg (fun h => by rw [h.1] at h; cases h.2)]))
  have HB2 := Lib.hid (below_of HB1.out hb2)
  have HA2 := Lib.hid (show w.heap.size ≤ a2 ∧ a2 < w1.heap.size from ⟨HS2.out _ HP2.out.sa, HP2.out.lt _ HP2.out.sa⟩)
  have HD2 := Lib.hid (show w.heap.size ≤ b2 ∧ b2 < w1.heap.size from ⟨HS2.out _ HP2.out.sb, HP2.out.lt _ HP2.out.sb⟩)
  have HAB := Lib.hid HP2.out.a_ne
  have HBL := Lib.hid (HH.out.lt b HH.out.sb)
  have HN2 := Lib.hid (show w1.heap.size < w2.heap.size by omega)
  clear hR hb2 hs2 hP HP2 HS2 C1 HB1
  go_wp2_with fail
  clear hr c0
  generalize w1.heap.size = r0 at *
  go_loopw [4] (fun _ wr => ∃ (left : List UInt8 → Bool) (cnt : Nat) (kn : Tx → Nat), Hid (RangeV Try.prog 9 any wr b r0 (nodF k g) left cnt) ∧ Hid (Below w.heap.size w wr) ∧ Hid (Whole wr a2 52 #[.map (some b2)]) ∧ Hid (ME wr b2 (forkF left kn g)) ∧ Hid (∀ x ∈ g, left x.nm = false → r0 < kn x.nm ∧ ME wr (kn x.nm) (memF x.ds))) (fun _ wr => wr.rangeLeft b r0)
  case atStart => exact ⟨_, cnt0, fun _ => 0, HR0, HB2, HX0, HM0, Lib.hid (fun x hx hl => by rw [nodF_isSome, has_iff.2 ⟨x, hx, rfl⟩] at hl; cases hl)⟩
  case round =>
    obtain ⟨left, cnt, kn, HRG, HB, HXR, HMR, HK⟩ := hrel
    go_wp2_with (at_next; refine wpList_next_V rfl _ rfl Try.underlying9 (fun c : Nat => .map (some c)) (nodF_mk k g) rfl HRG.out ?_ ?_)
    · intro hl0
      have HL0 := Lib.hid (fun x (hx : x ∈ g) => hl0 x.nm (HH.out.zn x hx))
      clear hl0
      go_wp2_with fail
      go_ret
      refine ⟨_, fun c => w.heap.size ≤ c ∧ c < wr.heap.size, rfl, ⟨_, _, kn, rfl, ⟨HXR.out, HMR.out.as fun s _ => ?_, fun x hx => (HK.out x hx (HL0.out x hx)).2, ⟨HA2.out.1, HXR.out.lt⟩, ⟨HD2.out.1, HMR.out.lt⟩, fun x hx => ?_, fun x hx => ?_, fun c hc => hc.2, HH.out.zn⟩⟩, fun c hc => hc.1, HB.out⟩
      · unfold forkF nodF
        by_cases e : hasM g s = true
        · obtain ⟨x, hx, rfl⟩ := has_iff.1 e
          rw [if_pos ⟨e, HL0.out x hx⟩, if_pos e]
        · rw [if_neg (fun h => e h.1), if_neg e]
      · obtain ⟨h1, h2⟩ := HK.out x hx (HL0.out x hx)
        have := HA2.out
        exact ⟨by omega, h2.lt⟩
      · obtain ⟨h1, h2⟩ := HK.out x hx (HL0.out x hx)
        have := HD2.out
        omega
    · intro s c w4 cnt4 hs hlk hf hrg hlt4 hg4 hsz4 hen
      obtain ⟨hns, hc⟩ := nodF_some hf
      obtain rfl : c = k s := by simpa using hc
      obtain ⟨x', hx', rfl⟩ := has_iff.1 hns
      have hsz : w.heap.size ≤ w4.heap.size := Nat.le_trans HB.out.size hg4.size
      have hB4 := HB.out.grown hg4 HB.out.size (fun j hj => by cases hj; have := HA2.out; omega)
      have hr4 := hrg.lt
      have hx4 := HXR.out.as (hg4.block a2 HXR.out.lt (fun e => by have := Option.some.inj e; have := HA2.out; omega))
      have hm4 := HMR.out.kept hg4 (fun e => by have := Option.some.inj e; have := HD2.out; omega)
      have hk4 : ∀ x ∈ g, left x.nm = false → r0 < kn x.nm ∧ ME w4 (kn x.nm) (memF x.ds) := fun x hx hl => by
        obtain ⟨h1, h2⟩ := HK.out x hx hl
        exact ⟨h1, h2.kept hg4 (fun e => by have := Option.some.inj e; omega)⟩
      have C := Lib.hid (fun u (hu : Below w4.heap.size w4 u) => mclone_any ((HH.out.st x' hx').same (u' := u) (by
        have hl := HH.out.lt _ (HH.out.sk x' hx')
        rw [hu.block _ (Nat.lt_of_lt_of_le hl hB4.size), hB4.block _ hl])))
      have PU := Lib.hid (fun (u : World) (q : Nat) (hu : Below w4.heap.size w4 u) => (hm4.belowS hu).put Try.underlying9 (T := 50) Try.underlying50 (l := g.map (·.nm)) (fun s _ h => by
        unfold forkF at h
        split at h
        · next h1 => obtain ⟨y, hy, e⟩ := has_iff.1 h1.1; exact List.mem_map.2 ⟨y, hy, e⟩
        · cases h) (by rw [List.length_map]; have := HBD.out; unfold maxLen; omega) (s := x'.nm) hs (v := .map (some q)) rfl)
      have HRG4 := Lib.hid hrg
      have HB4 := Lib.hid hB4
      have HX4 := Lib.hid hx4
      have HK4 := Lib.hid hk4
      have HM4 := Lib.hid hm4.lt
      have HXX := Lib.hid hx'
      have HNS := Lib.hid hns
      have HUQ := Lib.hid (fun (y : Nd) (hy : y ∈ g) (e : y.nm = x'.nm) => uniq_nm HG.out.uq hy hx' e)
      have HC := Lib.hid (fun (u : World) (hu : Below w4.heap.size w4 u) => show u.cell? ⟨a2, 0, none⟩ = some (.map (some b2)) from (hx4.belowS hu).cell 0)
      have HR4 := Lib.hid hr4
      clear hs hlk hf hrg hg4 hsz4 hns hc hx' hB4 hx4 hm4 hk4 hsz hr4
      generalize k x'.nm = c' at *
      go_upto_region 7 with fail
      have hW : Below w4.heap.size w4 w4.drew := (Below.refl _ _).drew
      have K0 := HC.out _ hW
      go_region_held3 (fun u => u.cell? ⟨a2, 0, none⟩ = some (.map (some b2)))
        (first | with_reducible exact K0 | with_reducible exact K1 | with_reducible exact K2)
        (first | (go_at_call 33; (with_reducible refine (C.out _ hW).mono ?_); rintro e w5 ⟨rfl, hm5, hb5⟩; have hB5 := below_of hW hb5; have K1 := HC.out _ hB5; obtain ⟨w6, hr6, hm6, hg6⟩ := PU.out w5 w4.heap.size hB5; have K2 : w6.cell? ⟨a2, 0, none⟩ = some (.map (some b2)) := (World.cell?_of_block (a := ⟨a2, 0, none⟩) (hg6.block a2 (World.block_lt_of_cell? w5 _ K1) (fun e => HAB.out (Option.some.inj e)))).trans K1))
      rename_i hHeld
      clear hHeld
      have hbd : w4.drew.heap.size = w4.heap.size := rfl
      rw [hbd] at hm5
      have HRG6 := Lib.hid ((HRG4.out.belowS hB5).kept hg6 (fun e => by have := Option.some.inj e; have := HD2.out; have := HBL.out; omega) (fun e => by have := Option.some.inj e; have := HD2.out; omega))
      have hB6 := below_of HB4.out hB5
      have HB6 := Lib.hid (hB6.grown hg6 hB6.size (fun j hj => by cases hj; exact HD2.out.1))
      have hx5 := HX4.out.belowS hB5
      have HX6 := Lib.hid (hx5.as (hg6.block a2 hx5.lt (fun e => HAB.out (Option.some.inj e))))
      have HM6 := Lib.hid (hm6.as (fun s _ => forkF_put HNS.out w4.heap.size s))
      have HK6 := Lib.hid (show ∀ x ∈ g, (left x.nm && !decide (x.nm = x'.nm)) = false → r0 < (if x.nm = x'.nm then w4.heap.size else kn x.nm) ∧ ME w6 (if x.nm = x'.nm then w4.heap.size else kn x.nm) (memF x.ds) from fun x hx hl => by
        by_cases e : x.nm = x'.nm
        · rw [if_pos e, HUQ.out x hx e]
          exact ⟨HR4.out, hm5.kept hg6 (fun e => by have := Option.some.inj e; have := HM4.out; omega)⟩
        · rw [if_neg e]
          obtain ⟨h1, h2⟩ := HK4.out x hx (by simpa [e] using hl)
          exact ⟨h1, (h2.belowS hB5).kept hg6 (fun e => by have := Option.some.inj e; have := HD2.out; omega)⟩)
      clear hm5 hm6 hg6 hr6 K0 K1 K2 hB5 hb5 hB6 hW hx5
      go_wp2_with fail
      go_roundw
      case rel => exact ⟨_, cnt4, _, HRG6, HB6, HX6, HM6, HK6⟩
      case measure => rw [HRG6.out.left_eq, HRG.out.left_eq]; omega
end
end Go.Proofs.Ytijcojidfallkaa.GP
