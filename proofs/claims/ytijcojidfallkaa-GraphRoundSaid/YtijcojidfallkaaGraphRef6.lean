/-
  The reference of layer 14: the order. Nothing here is a statement of the seed.
-/
import Derived.Test.YtijcojidfallkaaGraphRef5
set_option linter.unusedSimpArgs false
set_option linter.unusedVariables false
namespace Go.Proofs.Ytijcojidfallkaa.GF
open Go.RowKit WM NR OM OR GM GR
set_option maxHeartbeats 4000000
set_option maxRecDepth 10000
theorem own_form {w : World} {B : Nat} {e : TypeId} {size n : Nat} {v : Value} {xs : List Value} (h : w.ownsRow B e size v n xs) : ∃ a c, v = .slice a n c := by
  rcases h.2 with ⟨rfl, rfl⟩ | ⟨g, cap, cur, rfl, _⟩
  · exact ⟨none, 0, rfl⟩
  · exact ⟨_, cap, rfl⟩
theorem itO_len (g : List Nd) : ∀ k, (itO g k []).length ≤ k
  | 0 => Nat.le_refl _
  | k + 1 => by
    rw [itO_succ]
    have := itO_len g k
    unfold stepO
    split
    · rw [List.length_append, List.length_singleton]; omega
    · omega
theorem find_first {α β : Type} (f : α → β) (p : β → Bool) (d : α) : ∀ (l : List α) (i : Nat), i < l.length → (∀ j, j < i → p (f (l.getD j d)) = false) → p (f (l.getD i d)) = true → (l.map f).find? p = some (f (l.getD i d))
  | [], i, h, _, _ => by simp at h
  | a :: l, 0, h, _, h2 => by
    simp only [List.getD_cons_zero] at h2 ⊢
    rw [List.map_cons, List.find?_cons_of_pos h2]
  | a :: l, i + 1, h, h1, h2 => by
    have h0 := h1 0 (by omega)
    simp only [List.getD_cons_zero] at h0
    rw [List.map_cons, List.find?_cons_of_neg (by simp [h0]), List.getD_cons_succ]
    exact find_first f p d l i (by simpa using h) (fun j hj => by have := h1 (j + 1) (by omega); simpa using this) (by simpa using h2)
theorem find_none {α β : Type} (f : α → β) (p : β → Bool) (d : α) (l : List α) (h : ∀ j, j < l.length → p (f (l.getD j d)) = false) : (l.map f).find? p = none := by
  rw [List.find?_eq_none]
  intro x hx
  obtain ⟨y, hy, rfl⟩ := List.mem_map.1 hx
  obtain ⟨j, hj, rfl⟩ := List.getElem_of_mem hy
  have := h j hj
  rw [List.getD_eq_getElem?_getD, List.getElem?_eq_getElem hj] at this
  simpa using this
section
variable {w : World} {la : Option Addr} {ln lc : Nat} {l : List Nr}
theorem refOrder_any (h : RdG (· < w.heap.size) w la ln lc l) (hb : ln ≤ 1000000) :
    Calls Try.prog 28 #[gV la ln lc] w (IsL w (orderM (ndL l))) := by
  obtain ⟨i0, hi, hz0, hz1, hz2⟩ := info_parts infoStr
  obtain ⟨ll, q2, lm⟩ := h.len
  unfold maxLen at lm
  have hn : (ln : Int) ≤ 9223372036854775807 := by omega
  have q2 : (ln : Int) ≤ lc := by omega
  have hX := Whole.new w 29 (gC la ln lc)
  have hB := below_new w (.cells (gC la ln lc) 29)
  have hs : (w.alloc (.cells (gC la ln lc) 29)).heap.size = w.heap.size + 1 := by simp
  have HE := Lib.hid h
  have HL := Lib.hid ll
  have HO0 := Lib.hid (show orderM (ndL l) = itO (ndL l) ln [] by unfold orderM; rw [List.length_map, ll])
  generalize orderM (ndL l) = ORD at *
  clear h ll lm
  go_enter Try.func28, Try.ntmps28
  go_upto_region 1 with fail
  generalize w.alloc (.cells (gC la ln lc) 29) = W at *
  have HX := Lib.hid hX
  have HB := Lib.hid hB
  clear hX hB
  go_wp2_with fail
  go_loopw [3, 4] (fun v3 v4 wr => ∃ (k : Nat) (q : Value), k ≤ ln ∧ v4 = .int .i64 (k : Int) ∧ q = v3 ∧ Hid (wr.ownsRow (w.heap.size + 1) 9 1 q (itO (ndL l) k []).length (strs (itO (ndL l) k []))) ∧ Hid (Below W.heap.size W wr)) (fun _ v4 _ => ln - (intOf v4).toNat)
  case atStart => exact ⟨0, _, by omega, rfl, rfl, Lib.hid (World.ownsRow_nil _ _ _ _), Lib.hid (Below.refl _ _)⟩
  case round =>
    obtain ⟨k, q, hk, rfl, rfl, HO, HF⟩ := hrel
    have X := HX.out.belowS HF.out
    have c0 : wr.cell? ⟨w.heap.size, 0, none⟩ = some (.slice la ln lc) := X.cell 0
    clear X
    by_cases hlt : k < ln
    · have hlt' : (k : Int) < ln := by omega
      obtain ⟨w7, hw7⟩ : ∃ x, x = wr := ⟨_, rfl⟩
      subst hw7
      have hO := HO.out
      have HDL := Lib.hid (itO_len (ndL l) k)
      have HST := Lib.hid (itO_succ (ndL l) k [])
      obtain ⟨D, hD⟩ : ∃ D, D = itO (ndL l) k [] := ⟨_, rfl⟩
      rw [← hD] at HDL HST hO
      have HOD := Lib.hid hO
      clear hD hO HO
      go_wp2_with fail
      go_loopw [3, 5] (fun v3 v5 wr => ∃ (i : Nat) (q : Value), i ≤ ln ∧ v5 = .int .i64 (i : Int) ∧ q = v3 ∧ Hid (wr.ownsRow (w.heap.size + 1) 9 1 q D.length (strs D)) ∧ Hid (Below W.heap.size W wr) ∧ Hid (∀ j, j < i → readyM D (l.getD j r0).nd = false)) (fun _ v5 _ => ln - (intOf v5).toNat)
      case atStart => exact ⟨0, _, by omega, rfl, rfl, HOD, HF, Lib.hid (fun j hj => by omega)⟩
      case round =>
        obtain ⟨i, q, hik, rfl, rfl, HO, HF2, HN⟩ := hrel
        have X := HX.out.belowS HF2.out
        have HB1 := Lib.hid (HB.out.trans (HF2.out.mono HB.out.size))
        have c0 : wr.cell? ⟨w.heap.size, 0, none⟩ = some (.slice la ln lc) := X.cell 0
        have c6 := X.lt
        clear X HF HOD
        by_cases hli : i < ln
        · have hli' : (i : Int) < ln := by omega
          have kl : i < l.length := by rw [HL.out]; exact hli
          obtain ⟨g, off, rfl, q1, e1, e2⟩ := HE.out.at HB1.out hli
          have hm := getD_mem_nr kl
          obtain ⟨qa, qc, hq⟩ := own_form HO.out
          subst hq
          have CR := Lib.hid (refReady_any (w := wr) (l.getD i r0) (((HE.out.ok _ hm).keep (w' := wr) (fun g hg _ => HB1.out.block g hg)).mono fun g hg => Nat.lt_of_lt_of_le hg HB1.out.size) ((Reads.of_owns HO.out).there.mono fun g hg => hg.2))
          have hK := Lib.hid (fun (u : World) (hu : Below wr.heap.size wr u) => show u.cell? ⟨w.heap.size, 0, none⟩ = some (.slice (some ⟨g, off, none⟩) ln lc) ∧ u.cell? ⟨g, off + i * 2, none⟩ = some (.string (bs (l.getD i r0).nm)) from
            ⟨(hu.cell (p := ⟨w.heap.size, 0, none⟩) (World.block_lt_of_cell? _ _ c0)).trans c0, (hu.cell (p := ⟨g, off + i * 2, none⟩) (World.block_lt_of_cell? _ _ e1)).trans e1⟩)
          have HFF := Lib.hid (find_first Nr.nd (readyM D) r0 l i kl HN.out)
          have HNX := Lib.hid (fun (h : readyM D (l.getD i r0).nd = false) j (hj : j < i + 1) => if h2 : j < i then HN.out j h2 else by rw [show j = i by omega]; exact h)
          clear hm kl HN
          obtain ⟨R, hR⟩ : ∃ R, R = readyM D (l.getD i r0).nd := ⟨_, rfl⟩
          rw [← hR] at CR HFF HNX
          clear hR
          generalize l.getD i r0 = x at *
          cases R with
          | false =>
            have hN2 := Lib.hid (HNX.out rfl)
            have KO := Lib.hid (fun (u : World) (hu : Below wr.heap.size wr u) => owns_below HO.out hu)
            have KF := Lib.hid (fun (u : World) (hu : Below wr.heap.size wr u) => HF2.out.trans (hu.mono HF2.out.size))
            obtain ⟨X, hX⟩ : ∃ X, X = bs x.nm := ⟨_, rfl⟩
            rw [← hX] at e1 hK
            obtain ⟨xn, xa, xb, xc, xd⟩ := x
            simp only at hX
            simp only [nV, ← hX] at CR e2
            clear HNX HFF hX
            go_wp2_with (go_at_call 48; (with_reducible refine CR.out.mono ?_); rintro e w1 ⟨rfl, hb1⟩; have HO1 := Lib.hid (KO.out _ hb1); have HF1 := Lib.hid (KF.out _ hb1); clear hb1)
            go_roundw
            case rel => exact ⟨i + 1, _, by omega, by go_num, rfl, HO1, HF1, hN2⟩
            case measure => simp [intOf]; omega
          | true =>
            have hst := Lib.hid (show itO (ndL l) (k + 1) [] = D ++ [x.nm] by
              rw [HST.out]
              unfold stepO
              rw [show (ndL l).find? (readyM D) = some x.nd from HFF.out rfl])
            have KO := Lib.hid (fun (u : World) (hu : Below wr.heap.size wr u) => owns_below HO.out hu)
            have KF := Lib.hid (fun (u : World) (hu : Below wr.heap.size wr u) => HF2.out.trans (hu.mono HF2.out.size))
            have hdl := HDL.out
            have hnm : D.length + 1 ≤ maxLen := by unfold maxLen; omega
            have hn16 : (D.length + 1) * 16 ≤ 140737488355328 := by omega
            have hws : w.heap.size + 1 ≤ wr.heap.size := by have := HF2.out.size; omega
            obtain ⟨X, hX⟩ : ∃ X, X = bs x.nm := ⟨_, rfl⟩
            rw [← hX] at e1 hK
            obtain ⟨xn, xa, xb, xc, xd⟩ := x
            simp only at hX
            simp only [nV, ← hX] at CR e2
            have HXX := Lib.hid hX
            clear HNX HFF hX HST hdl HDL
            go_wp2_with (first
              | (go_at_call 48; (with_reducible refine CR.out.mono ?_); rintro e w1 ⟨rfl, hb1⟩; have hown := KO.out _ hb1; have HF1 := Lib.hid (KF.out _ hb1); obtain ⟨k0, k1⟩ := hK.out _ hb1; have hws1 := hb1.size; clear hb1)
              | (at_builtin; refine wpList_append_own _ rfl _ _ 32 rfl (w.heap.size + 1) 9 i0 (.string ⟨#[]⟩) 1 16 Try.underlying32 hi hz0 hz1 hz2 rfl (by decide) _ _ _ rfl (hown.alloc _) ⟨w1.heap.size, 0, none⟩ 1 1 [.string X] rfl rfl ?c1 ?c2 hnm hn16 ?c5 ?_))
            case c1 =>
              intro j u hu
              cases j with
              | zero => simp at hu; subst hu; exact (Whole.new _ _ _).cell 0
              | succ j => simp at hu
            case c2 => intro u hu; simp at hu; subst hu; rfl
            case c5 => simp; omega
            intro v' w3 hown3 hgrow _
            have hb1 : Below w1.heap.size w1 (w1.alloc (.cells #[.string X] 9)) := (Below.refl _ _).alloc (Nat.le_refl _) _
            have HF3 := Lib.hid (below_own (HF1.out.trans (hb1.mono HF1.out.size)) (by have := HF1.out.size; simp; omega) (hown.alloc (.cells #[.string X] 9)) (by omega) hgrow)
            have HO3 := Lib.hid (show w3.ownsRow (w.heap.size + 1) 9 1 v' (itO (ndL l) (k + 1) []).length (strs (itO (ndL l) (k + 1) [])) by
              rw [hst.out, List.length_append]
              have := hown3
              rw [HXX.out] at this
              have e : strs (D ++ [xn]) = strs D ++ [.string (bs xn)] := by simp [strs]
              rw [e]
              exact this)
            clear hown hown3 hgrow hb1 k0 k1 hst
            go_wp2_with fail
            go_roundw
            case rel => exact ⟨k + 1, v', by omega, by go_num, rfl, HO3, HF3⟩
            case measure => simp [intOf]; omega
        · obtain rfl : i = ln := by omega
          have hst := Lib.hid (show itO (ndL l) (k + 1) [] = D by
            rw [HST.out]
            unfold stepO
            rw [find_none Nr.nd _ r0 l (by rw [HL.out]; exact HN.out)])
          have HO3 := Lib.hid (by have := HO.out; rw [← hst.out] at this; exact this : wr.ownsRow (w.heap.size + 1) 9 1 q (itO (ndL l) (k + 1) []).length (strs (itO (ndL l) (k + 1) [])))
          clear HO HST hst HN HDL
          go_wp2_with fail
          go_roundw
          case rel => exact ⟨k + 1, _, by omega, by go_num, rfl, HO3, HF2⟩
          case measure => simp [intOf]; omega
    · obtain rfl : k = ln := by omega
      have HB1 := HB.out.trans (HF.out.mono HB.out.size)
      have R := Lib.hid (isL_own (w := w) HO.out rfl HB1)
      rw [← HO0.out] at R
      clear HB1
      go_wp2_with fail
      go_ret
      exact R.out
end
end Go.Proofs.Ytijcojidfallkaa.GF
