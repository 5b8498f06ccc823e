/-
  Pages, asked for one of a kind. Nothing here is a statement of the seed.
-/
import Derived.Test.YtkmjacpcpchjoaaPageSt
set_option linter.unusedSimpArgs false
set_option linter.unusedVariables false
namespace Go.Proofs.Ytkmjacpcpchjoaa.PF
open Go.RowKit PM PR

theorem ownedBy_any (o : Int) (w : World) : Calls Try.prog 62 #[.int .u16 o] w fun e w' => e = .returned (.func (.func 84) #[] #[.pointer (some ⟨w.heap.size, 0, none⟩)]) ∧ w' = w.alloc (.cells #[.int .u16 o] 38) := by
  go_enter Try.func62, Try.ntmps62
  go_wp2_with fail
  go_ret
  exact ⟨rfl, rfl⟩
/-- the pages l stand in block g, from off on -/
def Piece (w : World) (g off : Nat) (l : List Pg) : Prop := ∀ k, k < l.length → w.cell? ⟨g, off + k * 5, none⟩ = some (.int .u8 (l.getD k zero).st) ∧ w.cell? ⟨g, off + k * 5 + 1, none⟩ = some (.bool (l.getD k zero).ex) ∧ w.cell? ⟨g, off + k * 5 + 2, none⟩ = some (.bool (l.getD k zero).wr) ∧
    w.cell? ⟨g, off + k * 5 + 3, none⟩ = some (.int .u16 (l.getD k zero).ow) ∧ w.cell? ⟨g, off + k * 5 + 4, none⟩ = some (.int .u64 (l.getD k zero).ep)
theorem Piece.below {w w' : World} {g off B : Nat} {l : List Pg} (h : Piece w g off l) (hb : Below B w w') (hg : g < B) : Piece w' g off l := fun k hk => by
  obtain ⟨h0, h1, h2, h3, h4⟩ := h k hk
  exact ⟨(hb.cell (p := ⟨g, _, none⟩) hg).trans h0, (hb.cell (p := ⟨g, _, none⟩) hg).trans h1, (hb.cell (p := ⟨g, _, none⟩) hg).trans h2, (hb.cell (p := ⟨g, _, none⟩) hg).trans h3, (hb.cell (p := ⟨g, _, none⟩) hg).trans h4⟩
theorem Row.piece {w : World} {g : Nat} {l : List Pg} (h : Row w g l) : Piece w g 0 l := fun k hk => by
  simp only [Nat.zero_add]
  exact h.five hk rfl
theorem Row.part {w : World} {g : Nat} {l : List Pg} (h : Row w g l) (a n : Nat) (hl : a + n ≤ l.length) : Piece w g (a * 5) ((l.drop a).take n) := fun k hk => by
  rw [List.length_take, List.length_drop] at hk
  have e : ((l.drop a).take n).getD k zero = l.getD (a + k) zero := by
    rw [List.getD_eq_getElem?_getD, List.getD_eq_getElem?_getD, List.getElem?_take_of_lt (by omega), List.getElem?_drop]
  have := h.five (k := a + k) (by omega) rfl
  rw [Nat.add_mul] at this
  rw [e]
  exact this
def Found (c : Pg → Bool) (l : List Pg) (e : Ending) : Prop := ∃ r : Int, e = .returned (.int .i64 r) ∧ decide (0 ≤ r) = l.any c
theorem any_no {c : Pg → Bool} {l : List Pg} (h : ∀ j, j < l.length → c (l.getD j zero) = false) : l.any c = false := by
  rw [List.any_eq_false]
  intro x hx
  obtain ⟨j, hj, rfl⟩ := List.getElem_of_mem hx
  have := h j hj
  rw [getD_in hj] at this
  rw [this]; simp
theorem any_yes {c : Pg → Bool} {l : List Pg} {j : Nat} (hj : j < l.length) (h : c (l.getD j zero) = true) : l.any c = true := by
  rw [List.any_eq_true]
  refine ⟨l[j], List.getElem_mem hj, ?_⟩
  rwa [getD_in hj] at h
set_option maxHeartbeats 1000000 in
theorem indexUsed (l : List Pg) (g off cp : Nat) (w : World) (hl : l.length ≤ 256) (hg : g < w.heap.size) (h : Piece w g off l) :
    Calls Try.prog 83 #[.slice (some ⟨g, off, none⟩) l.length cp, .func (.func 61) #[] #[]] w fun e w' => Found usedB l e ∧ Below w.heap.size w w' := by
  have H := Lib.hid h
  clear h
  generalize hn : l.length = n at *
  have HN := Lib.hid hn
  clear hn
  go_enter Try.func83, Try.ntmps83
  go_wp2_with fail
  go_loopw [8] (fun i wr => ∃ k : Nat, k ≤ n ∧ i = .int .i64 (k : Int) ∧ Below w.heap.size w wr ∧ Hid (∀ j, j < k → usedB (l.getD j zero) = false)) (fun i _ => n - (intOf i).toNat)
  case atStart => exact ⟨0, by omega, rfl, Below.refl _ _, Lib.hid fun j hj => by omega⟩
  case round =>
    obtain ⟨k, hk, rfl, hb, hno⟩ := hrel
    by_cases hlt : k < n
    · have hlt' : (k : Int) < n := by omega
      obtain ⟨c0, c1, c2, c3, c4⟩ := (H.out.below hb hg) k (by rw [HN.out]; exact hlt)
      have hC := Lib.hid (isUsed_any (l.getD k zero))
      cases hu : usedB (l.getD k zero)
      all_goals
        rw [hu] at hC
        have HU := Lib.hid hu
        clear hu
        generalize hp : l.getD k zero = p at *
        have HP := Lib.hid hp
        clear hp
        obtain ⟨st, ex, wr', ow, ep⟩ := p
        simp only at c0 c1 c2 c3 c4
        change Hid (Says _ _ #[pgV st ex wr' ow ep] _) at hC
        go_wp2_with (go_at_call 61; refine (inw hC.out w _ hb).mono ?_; rintro e w1 ⟨rfl, hb⟩)
      · go_roundw
        case rel => exact ⟨k + 1, by omega, by go_num, hb, Lib.hid fun j hj => by
          by_cases hj' : j < k
          · exact hno.out j hj'
          · obtain rfl : j = k := by omega
            rw [HP.out]; exact HU.out⟩
        case measure => simp [intOf]; omega
      · go_ret
        exact ⟨⟨k, rfl, by rw [any_yes (by rw [HN.out]; exact hlt) (by rw [HP.out]; exact HU.out)]; simp⟩, hb⟩
    · obtain rfl : k = n := by omega
      go_wp2_with fail
      go_ret
      exact ⟨⟨-1, rfl, by rw [any_no (by rw [HN.out]; exact hno.out)]; rfl⟩, hb⟩
set_option maxHeartbeats 1000000 in
theorem indexOwned (l : List Pg) (o : Int) (b g off cp : Nat) (w : World) (hl : l.length ≤ 256) (hg : g < w.heap.size) (h : Piece w g off l) (hB : Whole w b 38 #[.int .u16 o]) :
    Calls Try.prog 83 #[.slice (some ⟨g, off, none⟩) l.length cp, .func (.func 84) #[] #[.pointer (some ⟨b, 0, none⟩)]] w fun e w' => Found (ownB o) l e ∧ Below w.heap.size w w' := by
  have H := Lib.hid h
  have HB := Lib.hid hB
  clear h hB
  generalize hn : l.length = n at *
  have HN := Lib.hid hn
  clear hn
  go_enter Try.func83, Try.ntmps83
  go_wp2_with fail
  go_loopw [8] (fun i wr => ∃ k : Nat, k ≤ n ∧ i = .int .i64 (k : Int) ∧ Below w.heap.size w wr ∧ Hid (∀ j, j < k → ownB o (l.getD j zero) = false)) (fun i _ => n - (intOf i).toNat)
  case atStart => exact ⟨0, by omega, rfl, Below.refl _ _, Lib.hid fun j hj => by omega⟩
  case round =>
    obtain ⟨k, hk, rfl, hb, hno⟩ := hrel
    by_cases hlt : k < n
    · have hlt' : (k : Int) < n := by omega
      obtain ⟨c0, c1, c2, c3, c4⟩ := (H.out.below hb hg) k (by rw [HN.out]; exact hlt)
      have hC := Lib.hid (fun u hu => ownedBy1_any (l.getD k zero) o b u hu)
      cases hu : ownB o (l.getD k zero)
      all_goals
        rw [hu] at hC
        have HU := Lib.hid hu
        clear hu
        generalize hp : l.getD k zero = p at *
        have HP := Lib.hid hp
        clear hp
        obtain ⟨st, ex, wr', ow, ep⟩ := p
        simp only at c0 c1 c2 c3 c4
        change Hid (∀ u, Whole u b 38 #[.int .u16 o] → Calls _ _ #[pgV st ex wr' ow ep, _] u _) at hC
        go_wp2_with (go_at_call 84; refine (hC.out _ (HB.out.belowS hb)).mono ?_; rintro e w1 ⟨rfl, hb1⟩; have hb := below_of hb hb1)
      · go_roundw
        case rel => exact ⟨k + 1, by omega, by go_num, hb, Lib.hid fun j hj => by
          by_cases hj' : j < k
          · exact hno.out j hj'
          · obtain rfl : j = k := by omega
            rw [HP.out]; exact HU.out⟩
        case measure => simp [intOf]; omega
      · go_ret
        exact ⟨⟨k, rfl, by rw [any_yes (by rw [HN.out]; exact hlt) (by rw [HP.out]; exact HU.out)]; simp⟩, hb⟩
    · obtain rfl : k = n := by omega
      go_wp2_with fail
      go_ret
      exact ⟨⟨-1, rfl, by rw [any_no (by rw [HN.out]; exact hno.out)]; rfl⟩, hb⟩
theorem containsUsed (l : List Pg) (g off cp : Nat) (w : World) (hl : l.length ≤ 256) (hg : g < w.heap.size) (h : Piece w g off l) :
    Calls Try.prog 60 #[.slice (some ⟨g, off, none⟩) l.length cp, .func (.func 61) #[] #[]] w fun e w' => e = .returned (.bool (l.any usedB)) ∧ Below w.heap.size w w' := by
  have C := Lib.hid (indexUsed l g off cp w hl hg h)
  clear h
  generalize hn : l.length = n at *
  have HN := Lib.hid hn
  clear hn
  generalize ha : l.any usedB = q at *
  have HA := Lib.hid ha
  clear ha
  go_enter Try.func60, Try.ntmps60
  go_wp2_with (go_at_call 83; refine C.out.mono ?_; rintro e w1 ⟨⟨r, rfl, hr⟩, hb⟩; have HR := Lib.hid hr; clear hr)
  go_ret
  exact ⟨ret_bool (HR.out.trans HA.out), hb⟩
theorem containsOwned (l : List Pg) (o : Int) (b g off cp : Nat) (w : World) (hl : l.length ≤ 256) (hg : g < w.heap.size) (h : Piece w g off l) (hB : Whole w b 38 #[.int .u16 o]) :
    Calls Try.prog 60 #[.slice (some ⟨g, off, none⟩) l.length cp, .func (.func 84) #[] #[.pointer (some ⟨b, 0, none⟩)]] w fun e w' => e = .returned (.bool (l.any (ownB o))) ∧ Below w.heap.size w w' := by
  have C := Lib.hid (indexOwned l o b g off cp w hl hg h hB)
  clear h hB
  generalize hn : l.length = n at *
  have HN := Lib.hid hn
  clear hn
  generalize ha : l.any (ownB o) = q at *
  have HA := Lib.hid ha
  clear ha
  go_enter Try.func60, Try.ntmps60
  go_wp2_with (go_at_call 83; refine C.out.mono ?_; rintro e w1 ⟨⟨r, rfl, hr⟩, hb⟩; have HR := Lib.hid hr; clear hr)
  go_ret
  exact ⟨ret_bool (HR.out.trans HA.out), hb⟩
end Go.Proofs.Ytkmjacpcpchjoaa.PF
