/-
  Room for each of the sizes, taken from the tree. Nothing here is a statement of the seed.
-/
import Derived.Test.YtegcekniolajeaaAllocTake
set_option linter.unusedSimpArgs false
set_option linter.unusedVariables false
namespace Go.Proofs.Ytegcekniolajeaa.AF
open Go.RowKit AL NR

theorem fit_cons {ls : List Nat} {ns : List Int} {i : Nat} (h : i < ns.length) : fitR ls (ns.drop i) = if ns.getD i 0 < 1 then false else match tk ls (ns.getD i 0).toNat with
    | none => false
    | some rs => fitR rs (ns.drop (i + 1)) := by
  rw [List.drop_eq_getElem_cons h]
  have e : ns.getD i 0 = ns[i] := by simp [h]
  rw [e]
  rfl
theorem fit_yes {ls ls' : List Nat} {ns : List Int} {i : Nat} (h : i < ns.length) (h1 : 1 ≤ ns.getD i 0) (h2 : tk ls (ns.getD i 0).toNat = some ls') : fitR ls (ns.drop i) = fitR ls' (ns.drop (i + 1)) := by
  rw [fit_cons h, if_neg (by omega), h2]
theorem fit_no {ls : List Nat} {ns : List Int} {i : Nat} (h : i < ns.length) (h1 : ns.getD i 0 < 1 ∨ tk ls (ns.getD i 0).toNat = none) : fitR ls (ns.drop i) = false := by
  rw [fit_cons h]
  by_cases h2 : ns.getD i 0 < 1
  · rw [if_pos h2]
  · rw [if_neg h2, h1.resolve_left h2]
theorem fit_done (ls : List Nat) (ns : List Int) : fitR ls (ns.drop ns.length) = true := by rw [List.drop_length]; rfl
theorem reads_num {G : Nat → Prop} {w : World} {g off : Nat} {l : List Int} (hc : ∀ j, j < (i64s l).length → w.cell? ⟨g, off + j, none⟩ = (i64s l)[j]?) (j : Nat) (hj : j < l.length) : w.cell? ⟨g, off + j, none⟩ = some (.int .i64 (l.getD j 0)) := by
  rw [hc j (by rw [i64s_len]; exact hj), i64s_at l j hj]
  simp [hj]
theorem grown_cell {w w' : World} {g p o B : Nat} (h : w.grownBy w' (some g)) (hp : p < B) (hB : B ≤ g) (hg : g < w.heap.size) : w'.cell? ⟨p, o, none⟩ = w.cell? ⟨p, o, none⟩ :=
  World.cell?_of_block (h.block p (by omega) (fun e => by have := Option.some.inj e; omega))
set_option maxHeartbeats 1000000 in
theorem each_any {w : World} {g d B : Nat} {T : List Nat} (h : TrW w g T) (ht : Tree T d) (hb : ∀ i, at0 T i ≤ 400) (hl : T.length ≤ 2000) (ns : List Int) (v : Value) (hv : Reads (· < B) w v (i64s ns)) (hB : B ≤ g) (hns : ns.length ≤ 20) :
    Calls Try.prog 24 #[.slice (some ⟨g, 0, none⟩) T.length T.length, v] w fun e w' => e = .returned (.bool (fitR (leaves T d) ns)) ∧ w.grownBy w' (some g) := by
  by_cases h0 : ns = []
  · subst h0
    obtain ⟨a, cap, e, _⟩ := hv
    have e : v = .slice a 0 cap := e
    subst e
    generalize T.length = m at *
    go_enter Try.func24, Try.ntmps24
    go_wp2_with fail
    go_loopw [9] (fun x wr => x = .int .i64 0 ∧ w = wr) (fun _ _ => 0)
    case atStart => exact ⟨rfl, rfl⟩
    case round =>
      obtain ⟨rfl, rfl⟩ := hrel
      go_wp2_with fail
      go_ret
      exact ⟨rfl, ⟨rfl, rfl, rfl, Nat.le_refl _, fun _ _ _ => rfl⟩⟩
  · have hne : i64s ns ≠ [] := by intro e; have := congrArg List.length e; rw [i64s_len] at this; simp at this; exact h0 this
    obtain ⟨p, off, cap, rfl, hp, hlc, hcm, hc⟩ := hv.cells hne
    have C := Lib.hid (reads_num (G := (· < B)) hc)
    have HT := Lib.hid (fun (u : World) (T' : List Nat) (hu : TrW u g T') (h2 : Tree T' d) (h3 : ∀ i, at0 T' i ≤ 400) (h4 : T'.length ≤ 2000) n => take_any hu h2 h3 h4 n)
    have HY := Lib.hid (fun ls ls' i (h : i < ns.length) h1 h2 => fit_yes (ls := ls) (ls' := ls') (ns := ns) (i := i) h h1 h2)
    have HN := Lib.hid (fun ls i (h : i < ns.length) h1 => fit_no (ls := ls) (ns := ns) (i := i) h h1)
    have HD := Lib.hid (fun ls => fit_done ls ns)
    have hg := h.lt
    have H0 := Lib.hid (show TrW w g T ∧ Tree T d ∧ (∀ i, at0 T i ≤ 400) ∧ fitR (leaves T d) (ns.drop 0) = fitR (leaves T d) ns from ⟨h, ht, hb, by rw [List.drop_zero]⟩)
    clear h ht hb hc hv hne h0
    rw [i64s_len] at *
    generalize fitR (leaves T d) ns = ans at *
    generalize hm : T.length = m at *
    generalize ns.length = z at *
    have hz : (z : Int) ≤ 20 := by omega
    unfold maxLen at hcm
    go_enter Try.func24, Try.ntmps24
    go_wp2_with fail
    go_loopw [9] (fun x wr => ∃ (i : Nat) (T' : List Nat), i ≤ z ∧ x = .int .i64 (i : Int) ∧ T'.length = m ∧ w.grownBy wr (some g) ∧ Hid (TrW wr g T' ∧ Tree T' d ∧ (∀ i, at0 T' i ≤ 400) ∧ fitR (leaves T' d) (ns.drop i) = ans)) (fun x _ => z - (intOf x).toNat)
    case atStart => exact ⟨0, T, by omega, rfl, hm, ⟨rfl, rfl, rfl, Nat.le_refl _, fun _ _ _ => rfl⟩, H0⟩
    case round =>
      obtain ⟨i, T', hi, rfl, hl', hgr, hI⟩ := hrel
      obtain ⟨I1, I2, I3, I4⟩ := hI.out
      by_cases hlt : i < z
      · have hlt' : (i : Int) < z := by omega
        have hi0 : (0 : Int) ≤ i := by omega
        have hcc := (grown_cell (p := p) (o := off + i) hgr hp hB hg).trans (C.out i hlt)
        have ct := Lib.hid (HT.out wr T' I1 I2 I3 (by omega) (ns.getD i 0))
        rw [hl'] at ct
        have I4h := Lib.hid I4
        have y := Lib.hid (fun ls' => HY.out (leaves T' d) ls' i hlt)
        have nn := Lib.hid (HN.out (leaves T' d) i hlt)
        have I2h := Lib.hid I2
        clear I1 I2 I3 I4 hI
        generalize ns.getD i 0 = n at *
        go_wp2_with fail
        (go_at_call 27; (with_reducible refine ct.out.mono ?_); rintro e2 w2 ⟨b, T2, rfl, t1, g2, t2, t3, t4, t5⟩; have hl2 : T2.length = m := (by rw [t2.len, ← I2h.out.len]; exact hl'); have HH := Lib.hid (And.intro t1 (And.intro t2 t3)); have hg2 := grown_trans hgr g2; clear t1 t2 t3 g2)
        cases b
        · have e := (nn.out (t5 rfl)).symm.trans I4h.out
          have he := Lib.hid e
          clear t4 t5 e
          go_wp2_with fail
          go_ret
          exact ⟨ret_bool he.out, hg2⟩
        · obtain ⟨q1, q2⟩ := t4 rfl
          have e := Lib.hid ((y.out _ q1 q2).symm.trans I4h.out)
          clear t4 t5 q1 q2
          go_wp2_with fail
          go_roundw
          case rel => exact ⟨i + 1, T2, by omega, by go_num, hl2, hg2, Lib.hid ⟨HH.out.1, HH.out.2.1, HH.out.2.2, e.out⟩⟩
          case measure => simp [intOf]; omega
      · obtain rfl : i = z := by omega
        have e := (HD.out (leaves T' d)).symm.trans I4
        have he := Lib.hid e
        clear I1 I2 I3 I4 hI e
        go_wp2_with fail
        go_ret
        exact ⟨ret_bool he.out, hgr⟩
end Go.Proofs.Ytegcekniolajeaa.AF
