/-
  The program's heap: Swap, Pop, Push. Nothing here is a statement of the seed.
-/
import Derived.Test.YtijcojidfallkaaGraphHA
import Derived.Deep.RegionLaw
import Derived.Maps.AppendAt
import Derived.Test.YtijcojidfallkaaGraphApp
set_option linter.unusedSimpArgs false
set_option linter.unusedVariables false
namespace Go.Proofs.Ytijcojidfallkaa.GH
open Go.RowKit WM NR OM OR GM GR MV GF GP
set_option maxHeartbeats 4000000
set_option maxRecDepth 10000
section
variable {B : Nat} {w : World} {a : Option Addr} {c : Nat} {ss : List Tx}
theorem strs_set (ss : List Tx) (i : Nat) (x : Tx) : strs (ss.set i x) = (strs ss).set i (.string (bs x)) := by
  unfold strs
  rw [List.map_set]
theorem swap_any {n : Nat} (ho : w.ownsRow B 9 1 (.slice a n c) n (strs ss)) (hn : ss.length = n) (hs : n ≤ 80000) {i j : Nat} (hi : i < n) (hj : j < n) :
    Calls Try.prog 103 #[.slice a n c, .int .i64 i, .int .i64 j] w fun e u => e = .returned (.tuple #[]) ∧ u.ownsRow B 9 1 (.slice a n c) n (strs (sw ss i j)) ∧ w.grownBy u (Value.slice a n c).ownBlock := by
  subst hn
  have ho' := ho
  rcases ho'.2 with ⟨e, _⟩ | ⟨g, cap, cur, e, hbase, hb, h1, h2, h3, h4⟩
  · simp only [Value.slice.injEq] at e
    omega
  · simp only [Value.slice.injEq] at e
    obtain ⟨rfl, _, rfl⟩ := e
    have c1 := ho.cellAt i (by omega)
    have c2 := ho.cellAt j (by omega)
    have f1 := ho.frozenAt i
    have f2 := ho.frozenAt j
    rw [strs_at hi] at c1
    rw [strs_at hj] at c2
    have hiz : (i : Int) < ss.length := by omega
    have hjz : (j : Int) < ss.length := by omega
    have hlz : (ss.length : Int) ≤ 80000 := by omega
    have hlc : (ss.length : Int) ≤ c := by omega
    have R := Lib.hid (show ((w.setCell ⟨g, i, none⟩ (.string (bs (ss.getD j [])))).setCell ⟨g, j, none⟩ (.string (bs (ss.getD i [])))).ownsRow B 9 1 (.slice (some ⟨g, 0, none⟩) ss.length c) ss.length (strs (sw ss i j)) ∧ w.grownBy ((w.setCell ⟨g, i, none⟩ (.string (bs (ss.getD j [])))).setCell ⟨g, j, none⟩ (.string (bs (ss.getD i [])))) (some g) from by
      constructor
      · have h1 := ((ho.stored i (.string (bs (ss.getD j [])))).1.stored j (.string (bs (ss.getD i [])))).1
        unfold sw
        rw [strs_set, strs_set]
        exact h1
      · refine ⟨rfl, rfl, rfl, by simp, fun k hk hne => ?_⟩
        have hk2 : k ≠ g := fun e => hne (by rw [e])
        rw [Below.heap_setCell _ _ _ _ hk2, Below.heap_setCell _ _ _ _ hk2])
    obtain ⟨z, c3⟩ : ∃ z, (w.setCell ⟨g, i, none⟩ (.string (bs (ss.getD j [])))).cell? ⟨g, j, none⟩ = some z := by
      have h5 := (ho.stored i (.string (bs (ss.getD j [])))).1.cellAt j (by omega)
      rw [List.getElem?_eq_getElem (by rw [List.length_set, strs_len]; exact hj)] at h5
      exact ⟨_, h5⟩
    have f3 := (ho.stored i (.string (bs (ss.getD j [])))).1.frozenAt j
    clear ho hb h1 h2 h3 h4 hbase hs hi hj ho'
    generalize bs (ss.getD i []) = x at *
    generalize bs (ss.getD j []) = y at *
    generalize sw ss i j = ss' at *
    generalize ss.length = n at *
    go_enter Try.func103, Try.ntmps103
    go_wp2_with fail
    go_region
    go_wp2_with fail
    go_end0
    exact ⟨rfl, owns_below R.out.1 ((Below.refl _ _).drew), ⟨R.out.2.os, R.out.2.tape, R.out.2.output, R.out.2.size, R.out.2.block⟩⟩
/-- a row of texts behind a box -/
structure HpR (B : Nat) (w : World) (p : Nat) (v : Value) (ss : List Tx) : Prop where
  lt : p < B
  bx : Whole w p 71 #[v]
  ow : w.ownsRow B 9 1 v ss.length (strs ss)
theorem HpR.form {p : Nat} {v : Value} (h : HpR B w p v ss) : ∃ a c, v = .slice a ss.length c := own_form' h.ow
theorem pop_any {p : Nat} {v : Value} (h : HpR B w p v ss) (hs : ss.length ≤ 80000) {m : Nat} (hm : ss.length = m + 1) :
    Calls Try.prog 104 #[ptr p] w fun e u => e = .returned (.iface 9 (.string (bs (ss.getD m [])))) ∧ ∃ v', HpR B u p v' (ss.take m) ∧ v'.ownBlock = v.ownBlock ∧ w.grownBy u (some p) := by
  obtain ⟨h1, h2, h3⟩ := h
  rw [hm] at h3
  rcases h3.2 with ⟨_, e⟩ | ⟨g, cap, cur, rfl, hbase, hb, q1, q2, q3, q4⟩
  · omega
  · have c0 := h2.cell 0
    have f0 := h2.frozen 0
    have c1 := h3.cellAt m (by omega)
    rw [strs_at (by omega)] at c1
    have hmz : (m : Int) + 1 ≤ 80000 := by omega
    have hmc : (m : Int) + 1 ≤ cap := by omega
    unfold maxLen at q2
    have R := Lib.hid (show ∃ v', HpR B (w.setCell ⟨p, 0, none⟩ (.slice (some ⟨g, 0, none⟩) m cap)) p v' (ss.take m) ∧ v'.ownBlock = (Value.slice (some ⟨g, 0, none⟩) (m + 1) cap).ownBlock ∧ w.grownBy (w.setCell ⟨p, 0, none⟩ (.slice (some ⟨g, 0, none⟩) m cap)) (some p) from by
      have hl : (ss.take m).length = m := by rw [List.length_take]; omega
      refine ⟨.slice (some ⟨g, 0, none⟩) m cap, ⟨h1, h2.set_ 0 _, ?_⟩, rfl, grown_set w p 0 _⟩
      rw [hl]
      refine own_set (p := p) ⟨by rw [strs_len, hl, Nat.mul_one], .inr ⟨g, cap, cur, rfl, hbase, hb, by omega, q2, q3, ?_⟩⟩ h1 _
      have : strs (ss.take m) = (strs ss).take m := by unfold strs; rw [List.map_take]
      rw [this, ← q4, Nat.mul_one, Nat.mul_one, List.take_take]
      congr 1
      omega)
    clear h1 h2 h3 hb q1 q3 q4 hbase hs hm
    generalize bs (ss.getD m []) = x at *
    go_enter Try.func104, Try.ntmps104
    go_wp2_with fail
    go_ret
    exact ⟨rfl, R.out⟩
theorem Fr_grown' {S : Nat → Prop} {a b c : World} {row : Option Nat} (h : Fr S a b) (k : b.grownBy c row) (hr : ∀ i, row = some i → S i ∨ a.heap.size ≤ i) : Fr S a c :=
  h.trans (S' := fun i => row = some i) ⟨k.os, k.tape, k.output, k.size, fun i hi hn => k.block i hi (fun e => hn e.symm)⟩ hr
theorem step_append_run {P : Program} {ops : Array Oper} {o : Oper} {a : Act} {w : World} {K : Act → World → Prop} {Q : Exit → Act → World → Prop} {E : Prop}
    (hg : o.guard = none) (s x : Operand) (t : TypeId) (hop : o.op = Op.call { callee := Callee.builtin Builtin.append, args := #[s, x], argTypes := #[t, t] })
    (vs vx : Value) (hs : a.eval s = vs) (hx : a.eval x = vx) (v' : Value) (w' : World) (hr : (Builtin.append_ #[t, t] o.type #[vs, vx]).run P w = .ok v' w') (hK : K (a.put o.dst v') w') :
    if Region.wanted o (yielded ops a.tmps) = true then Oper.wp P o a w K Q else E := by
  have hw : Region.wanted o (yielded ops a.tmps) = true := by simp [Region.wanted, hg]
  rw [if_pos hw]
  exact Lib.wp_append_run _ _ _ _ _ hop _ _ hs hx _ _ hr hK
theorem app_one {tt ty : TypeId} (htt : Try.prog.underlying tt = some (.slice 9)) {u : World} {n : Nat} {v : Value} {l : List (List UInt8)} {y : Tx} {a : Addr} {G : Nat → Prop} (hB : B ≤ u.heap.size) (ho : u.ownsRow B 9 1 v n (strs l)) (hr : Reads G u (.slice (some a) 1 1) (strs [y])) (hm : n ≤ 1000000) :
    ∃ v' u', (Builtin.append_ #[tt, tt] ty #[v, .slice (some a) 1 1]).run Try.prog u = .ok v' u' ∧ u'.ownsRow B 9 1 v' (n + 1) (strs (l ++ [y])) ∧ u.grownBy u' v.ownBlock ∧ (v'.ownBlock = v.ownBlock ∨ v'.ownBlock = some u.heap.size) := by
  obtain ⟨i0, hi, hz0, hz1, hz2⟩ := info_split infoStr
  have e : strs (l ++ [y]) = strs l ++ strs [y] := by simp [strs]
  rw [e]
  obtain ⟨v', u', hr, h2, h3, _, h4⟩ := run_append_own_at (P := Try.prog) (w := u) B tt ty 9 i0 (.string ⟨#[]⟩) 1 16 htt hi hz0 hz1 hz2 rfl (by decide) v n (strs l) ho a 1 1 (strs [y]) (by simp [strs]) (readsC hr) (fun x hx => by simp [strs] at hx; subst hx; rfl) (by unfold maxLen; omega) (by omega) hB
  exact ⟨v', u', hr, h2, h3, h4⟩
theorem push_any {p : Nat} {v : Value} (h : HpR B w p v ss) (hs : ss.length ≤ 80000) (hp : B ≤ w.heap.size) (x : Tx) :
    Calls Try.prog 105 #[ptr p, .iface 9 (.string (bs x))] w fun e u => e = .returned (.tuple #[]) ∧ ∃ v', HpR B u p v' (ss ++ [x]) ∧ Fr (fun g => g = p ∨ v.ownBlock = some g) w u ∧ (∀ g, v'.ownBlock = some g → v.ownBlock = some g ∨ w.heap.size ≤ g) := by
  obtain ⟨a, c, rfl⟩ := h.form
  have c0 := h.bx.cell 0
  have ht : ∀ u : World, (Instr.typeAssert (.iface 9 (.string (bs x))) 20 9 false).run Try.prog u = .ok (.string (bs x)) u := fun u => by kernel_rfl
  have hU : Below w.heap.size w (w.alloc (.cells #[.string (bs x)] 9)).drew := ((Below.refl _ _).alloc (Nat.le_refl _) _).drew
  have hsz : w.heap.size + 1 = (w.alloc (.cells #[.string (bs x)] 9)).drew.heap.size := by simp
  have hRx : Reads (fun g => g = w.heap.size) (w.alloc (.cells #[.string (bs x)] 9)).drew (.slice (some ⟨w.heap.size, 0, none⟩) 1 1) (strs [x]) := (one_str w x 9).keep fun g _ _ => rfl
  obtain ⟨v', u', hr, ho, hg, hv⟩ := app_one (B := B) (tt := 71) (ty := 71) Try.underlying71 (by omega) (owns_below h.ow hU) hRx (by omega)
  obtain ⟨a', c', hv'⟩ := own_form' ho
  subst hv'
  have hb0 := (h.bx.belowS hU)
  have hpne : some p ≠ (Value.slice a ss.length c).ownBlock := fun e => by have := (h.ow.lt p e.symm).1; have := h.lt; omega
  have hb1 := hb0.as (hg.block p hb0.lt hpne)
  have c1 := hb1.cell 0
  have f1 := hb1.frozen 0
  have c2 := (h.bx.alloc (.cells #[.string (bs x)] 9)).cell 0
  have R := Lib.hid (show ∃ v', HpR B (u'.setCell ⟨p, 0, none⟩ (.slice a' (ss.length + 1) c')) p v' (ss ++ [x]) ∧ Fr (fun g => g = p ∨ (Value.slice a ss.length c).ownBlock = some g) w (u'.setCell ⟨p, 0, none⟩ (.slice a' (ss.length + 1) c')) ∧ (∀ g, v'.ownBlock = some g → (Value.slice a ss.length c).ownBlock = some g ∨ w.heap.size ≤ g) from by
    refine ⟨_, ⟨h.lt, hb1.set_ 0 _, ?_⟩, ?_, fun g hg => by
      rcases hv with e | e
      · exact Or.inl (by rw [← e]; exact hg)
      · rw [e] at hg
        have := Option.some.inj hg
        exact Or.inr (by omega)⟩
    · rw [List.length_append]
      exact own_set ho h.lt _
    · refine Fr.set (Fr_grown' ((Fr.refl (fun g => g = p ∨ (Value.slice a ss.length c).ownBlock = some g) w).then hU) hg (fun i hi => Or.inl (Or.inr hi))) (p := ⟨p, 0, none⟩) (Or.inl (Or.inl rfl)) _)
  have hsl : (ss.length : Int) ≤ 80000 := by omega
  clear h hs ho hg hv hb0 hb1 hpne hU hRx hp
  generalize bs x = X at *
  go_enter Try.func105, Try.ntmps105
  go_region_law (refine step_append_run rfl (.tmp 7) (.tmp 10) 71 rfl (.slice a ss.length c) (.slice (some ⟨w.heap.size, 0, none⟩) 1 1) (by simp [Act.eval, Act.put]) (by simp [Act.eval, Act.put]) _ _ hr ?_)
  all_goals (refine bodyPost_end (results_none rfl _ _ _) rfl ?_; exact ⟨rfl, R.out⟩)
end
end Go.Proofs.Ytijcojidfallkaa.GH
