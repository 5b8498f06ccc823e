/-
  The program lays a node and what it stands on. Nothing here is a statement of the seed.
-/
import Derived.Test.YtijcojidfallkaaGraphPR
import Derived.Deep.RegionHeld3
set_option linter.unusedSimpArgs false
set_option linter.unusedVariables false
namespace Go.Proofs.Ytijcojidfallkaa.GP
open Go.RowKit WM NR OM OR GM GR MV
set_option maxHeartbeats 4000000
set_option maxRecDepth 10000
theorem clone_any (s : ByteArray) (w : World) (hs : s.size ≤ 281474976710656) :
    Calls Try.prog 53 #[.string s] w fun e w' => e = .returned (.string s) ∧ Below w.heap.size w w' := by
  have C := Lib.hid (Try.stringslite_Clone s w hs)
  go_enter Try.func53, Try.ntmps53
  go_wp2_with (go_at_call 62; refine C.out.mono ?_; rintro e w' ⟨rfl, hb⟩)
  go_ret
  exact ⟨rfl, hb⟩
theorem getD_in {l : List Tx} {k : Nat} (h : k < l.length) : l.getD k [] ∈ l := by rw [List.getD_eq_getElem?_getD, List.getElem?_eq_getElem h]; exact List.getElem_mem _
theorem memF_take (xs : List Tx) (k : Nat) (h : k < xs.length) (s : Tx) : (if s = xs.getD k [] then some uV else memF (xs.take k) s) = memF (xs.take (k + 1)) s := by
  have e : xs.take (k + 1) = xs.take k ++ [xs.getD k []] := by
    rw [List.take_add_one, List.getElem?_eq_getElem h, List.getD_eq_getElem?_getD, List.getElem?_eq_getElem h]
    rfl
  unfold memF
  rw [e]
  by_cases h1 : s = xs.getD k []
  · simp [h1]
  · rw [if_neg h1]
    simp only [List.mem_append, List.mem_singleton, h1, or_false]
theorem memF_ext {a b : List Tx} (h : ∀ x, x ∈ a ↔ x ∈ b) : memF a = memF b := by
  funext s
  unfold memF
  by_cases h1 : s ∈ a
  · rw [if_pos h1, if_pos ((h s).1 h1)]
  · rw [if_neg h1, if_neg (fun h2 => h1 ((h s).2 h2))]
section
variable {S : Nat → Prop} {w : World} {a b : Nat} {k : Tx → Nat} {g : List Nd}
theorem nodF_in {s : Tx} (h : (nodF k g s).isSome = true) : s ∈ g.map (·.nm) := by
  rw [nodF_isSome] at h
  obtain ⟨x, hx, e⟩ := has_iff.1 h
  exact List.mem_map.2 ⟨x, hx, e⟩
theorem put_pt (h : Pt S w a b k g) (hg : GM.Good g) (h300 : g.length ≤ 300) (m : Tx) (hm : m.length ≤ 281474976710656) {na : Option Addr} {nn nc : Nat} {xs : List Tx} (hx : Reads (fun c => ¬ S c ∧ c < w.heap.size) w (.slice na nn nc) (strs xs)) (hxs : ∀ x ∈ xs, x.length ≤ 281474976710656) (hxl : xs.length ≤ 80000) :
    Calls Try.prog 36 #[.pointer (some ⟨a, 0, none⟩), .string (bs m), .slice na nn nc] w fun e u => e = .returned (.tuple #[]) ∧ ∃ q, w.heap.size ≤ q ∧ q < u.heap.size ∧ ME u q (memF xs) ∧ ME u b (fun s => if s = m then some (.map (some q)) else nodF k g s) ∧ Fr (· = b) w u := by
  obtain ⟨n1, m1, m2⟩ := reads_len hx
  rw [strs_len] at n1
  unfold maxLen at m2
  have hn : (nn : Int) ≤ 9223372036854775807 := by omega
  have m1' : (nn : Int) ≤ nc := by omega
  have HL := Lib.hid n1
  have HH := Lib.hid h
  have HG := Lib.hid hg
  have H3 := Lib.hid h300
  have HX := Lib.hid hx
  have HXS := Lib.hid hxs
  have HXL := Lib.hid hxl
  have HM := Lib.hid hm
  have CM := Lib.hid (fun u => clone_any (bs m) u (by rw [bs_size]; exact hm))
  obtain ⟨M, hM⟩ : ∃ M, M = bs m := ⟨_, rfl⟩
  rw [← hM] at CM ⊢
  have HMM := Lib.hid hM
  have hmm := @run_makeMap Try.prog
  clear hx n1 m1 m2 h hg h300 hxs hxl hm hM
  go_enter Try.func36, Try.ntmps36
  go_upto_region 1 with fail
  have hq0 : ME (w.alloc (.map #[] 0)) w.heap.size (memF (xs.take 0)) := (MapV.made (P := Try.prog) (K := 9) (ok := any) w).as (fun s _ => rfl)
  have hb0 : Below w.heap.size w (w.alloc (.map #[] 0)) := (Below.refl _ _).alloc (Nat.le_refl _) _
  have HQ0 := Lib.hid hq0
  have HB0 := Lib.hid hb0
  clear hq0 hb0
  generalize w.alloc (.map #[] 0) = W0 at *
  obtain ⟨q, hq⟩ : ∃ q, q = w.heap.size := ⟨_, rfl⟩
  rw [← hq] at HQ0 ⊢
  have HQ := Lib.hid hq
  clear hq hmm
  go_wp2_with fail
  go_loopw [12] (fun v12 wr => ∃ j : Nat, j ≤ nn ∧ v12 = .int .i64 (j : Int) ∧ Hid (ME wr q (memF (xs.take j))) ∧ Hid (Below w.heap.size w wr)) (fun v12 _ => nn - (intOf v12).toNat)
  case atStart => exact ⟨0, by omega, rfl, HQ0, HB0⟩
  case round =>
    obtain ⟨j, hj, rfl, HE, HB⟩ := hrel
    by_cases hlt : j < nn
    · have hltz : (j : Int) < nn := by omega
      have j1 : j < xs.length := by rw [HL.out]; exact hlt
      obtain ⟨gb, off, rfl, q1, c1⟩ := reads_atG HX.out (u := wr) (fun g hg _ => HB.out.block g hg.2) hlt
      rw [strs_at j1] at c1
      have hxm := getD_in (l := xs) j1
      have hxlen := HXS.out _ hxm
      have CX := Lib.hid (fun u => clone_any (bs (xs.getD j [])) u (by rw [bs_size]; exact hxlen))
      have PU := Lib.hid (fun u (hb : Below wr.heap.size wr u) => (HE.out.belowS hb).put (T := 57) Try.underlying9 Try.underlying57 (l := xs.take j) (fun s _ h => by obtain ⟨v, hv⟩ := Option.isSome_iff_exists.1 h; exact memF_some hv) (by rw [List.length_take]; have := HXL.out; unfold maxLen; omega) (s := xs.getD j []) (by unfold maxLen; omega) (v := uV) rfl)
      have ET := Lib.hid (memF_take xs j j1)
      obtain ⟨X, hX⟩ : ∃ X, X = bs (xs.getD j []) := ⟨_, rfl⟩
      rw [← hX] at c1 CX PU
      clear hX hxm j1 hxlen
      go_wp2_with (go_at_call 53; (with_reducible refine (CX.out _).mono ?_); rintro e w2 ⟨rfl, hb2⟩; obtain ⟨w3, hr3, hm3, hg3⟩ := PU.out w2 hb2; have HM3 := Lib.hid hm3; have HG3 := Lib.hid hg3; have HB2 := Lib.hid hb2; clear hm3 hg3 hb2)
      go_roundw
      case rel => exact ⟨j + 1, by omega, by go_num, Lib.hid (HM3.out.as fun s _ => ET.out s), Lib.hid ((below_of HB.out HB2.out).grown HG3.out (Nat.le_trans HB.out.size HB2.out.size) (fun i hi => by cases hi; exact Nat.le_of_eq HQ.out.symm))⟩
      case measure => simp [intOf]; omega
    · obtain rfl : j = nn := by omega
      have hxk : xs.take j = xs := List.take_of_length_le (by rw [HL.out]; exact Nat.le_refl _)
      have HE := Lib.hid (by have := HE.out; rw [hxk] at this; exact this : ME wr q (memF xs))
      clear hxk
      have hbl := HH.out.lt b HH.out.sb
      have hP := HH.out.below HB.out
      have PU := Lib.hid (fun u (hb : Below wr.heap.size wr u) => (hP.md.belowS hb).put (T := 50) Try.underlying9 Try.underlying50 (l := g.map (·.nm)) (fun s _ h => nodF_in h) (by rw [List.length_map]; have := H3.out; unfold maxLen; omega) (s := m) (by have := HM.out; unfold maxLen; omega) (v := .map (some q)) rfl)
      rw [← HMM.out] at PU
      have HK := Lib.hid (fun (u : World) (hu : Below wr.heap.size wr u) => show u.cell? ⟨a, 0, none⟩ = some (.map (some b)) from (hP.hd.belowS hu).cell 0)
      have HA := Lib.hid hP.a_ne
      have HBL := Lib.hid hbl
      clear hP hbl
      go_upto_region 6 with fail
      have hW : Below wr.heap.size wr wr.drew := (Below.refl _ _).drew
      have K0 := HK.out _ hW
      go_region_held3 (fun u => u.cell? ⟨a, 0, none⟩ = some (.map (some b)))
        (first | with_reducible exact K0 | with_reducible exact K1 | with_reducible exact K2)
        (first | (go_at_call 53; (with_reducible refine (CM.out _).mono ?_); rintro e w5 ⟨rfl, hb5⟩; have hB5 := below_of hW hb5; have K1 := HK.out _ hB5; obtain ⟨w6, hr6, hm6, hg6⟩ := PU.out w5 hB5; have K2 : w6.cell? ⟨a, 0, none⟩ = some (.map (some b)) := (World.cell?_of_block (a := ⟨a, 0, none⟩) (hg6.block a (World.block_lt_of_cell? w5 _ K1) (fun e => HA.out (Option.some.inj e)))).trans K1))
      rename_i hHeld
      clear hHeld
      have hB6 := below_of HB.out hB5
      have R := Lib.hid (show ∃ q, w.heap.size ≤ q ∧ q < w6.heap.size ∧ ME w6 q (memF xs) ∧ ME w6 b (fun s => if s = m then some (.map (some q)) else nodF k g s) ∧ Fr (· = b) w w6 from by
        have hme : ME w6 q (memF xs) := (HE.out.belowS hB5).kept hg6 (fun e => by have := Option.some.inj e; have := HQ.out; have := HBL.out; omega)
        exact ⟨q, Nat.le_of_eq HQ.out.symm, hme.lt, hme, hm6, (Fr.of_below hB6).trans (fr_grown hg6) (fun i hi => Or.inl hi)⟩)
      clear hm6 hg6 hr6 K0 K1 K2 hB5 hb5 hB6 hW
      go_wp2_with fail
      go_end0
      exact ⟨rfl, R.out⟩
end
end Go.Proofs.Ytijcojidfallkaa.GP
