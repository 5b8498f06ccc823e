/-
  A copied module, with one element more at the end of a list. Nothing here is a statement of the seed.
-/
import Derived.Test.YtdfafllldanfiaaObjCopyO
import Derived.Test.YtdfafllldanfiaaValM
set_option linter.unusedSimpArgs false
set_option linter.unusedVariables false
namespace Go.Proofs.Ytdfafllldanfiaa.OR
open Go.RowKit WM NR OM
set_option maxHeartbeats 4000000
set_option maxRecDepth 10000
theorem owns_whole {u : World} {B : Nat} {e : TypeId} {size n : Nat} {v : Value} {xs : List Value} (h : u.ownsRow B e size v n xs) {g : Nat} (hg : v.ownBlock = some g) : ∃ cur, Whole u g e cur := by
  rcases h.2 with ⟨rfl, _⟩ | ⟨g', cap, cur, rfl, hb, hh, _⟩
  · simp [Value.ownBlock] at hg
  · simp [Value.ownBlock] at hg
    subst hg
    exact ⟨cur, hh⟩
theorem owns_ne {u : World} {B B' : Nat} {e e' : TypeId} {size size' n n' : Nat} {v v' : Value} {xs xs' : List Value} (h : u.ownsRow B e size v n xs) (h' : u.ownsRow B' e' size' v' n' xs') (hne : e ≠ e') : ∀ g, v.ownBlock = some g → v'.ownBlock ≠ some g := fun g hg hg' => by
  obtain ⟨c, hc⟩ := owns_whole h hg
  obtain ⟨c', hc'⟩ := owns_whole h' hg'
  exact Whole.ne_ hc hc' hne rfl
theorem owns_off {u u' : World} {B : Nat} {e : TypeId} {size n : Nat} {v : Value} {xs : List Value} {r : Option Nat} (h : u.ownsRow B e size v n xs) (hg : u.grownBy u' r) (hne : ∀ g, v.ownBlock = some g → r ≠ some g) : u'.ownsRow B e size v n xs := by
  refine ⟨h.1, ?_⟩
  rcases h.2 with h0 | ⟨g, cap, cur, rfl, hb, hh, h3, h4, h5, h6⟩
  · exact Or.inl h0
  · exact Or.inr ⟨g, cap, cur, rfl, hb, by rw [hg.block g (Array.getElem?_eq_some_iff.1 hh).1 (fun e => hne g rfl e.symm)]; exact hh, h3, h4, h5, h6⟩
theorem box_turn {u u' : World} {b : Nat} {t e : TypeId} {cs : Array Value} {r : Option Nat} (h : Whole u b t cs) (hg : u.grownBy u' r) (hr : ∀ g, r = some g → ∃ cur, Whole u g e cur) (hne : t ≠ e) : Whole u' b t cs :=
  h.as (hg.block b h.lt (fun e1 => by
    obtain ⟨cur, hc⟩ := hr b e1.symm
    exact Whole.ne_ h hc hne rfl))
section
variable {B : Nat} {u : World} {ea : Option Addr} {en ec : Nat} {ia : Option Addr} {im ic : Nat} {ca : Option Addr} {cn cc : Nat} {da : Option Addr} {dn dc : Nat} {ra : Option Addr} {rn rc : Nat} {m : Md}
theorem app_ex (h : OwnD B m u ea en ec ia im ic ca cn cc da dn dc ra rn rc) (hB : B ≤ u.heap.size) {ty : TypeId} (p : Addr) (x : List UInt8) (hx : ∀ j y, (strs [x])[j]? = some y → u.cell? (p.add j) = some y) (hn : en ≤ 65536) :
    ∃ a' c' u', (Builtin.append_ #[22, 22] ty #[.slice ea en ec, .slice (some p) 1 1]).run Try.prog u = .ok (.slice a' (en + 1) c') u' ∧ Own5 B { m with exps := m.exps ++ [x] } u' a' ((en + 1)) c' ia im ic ca cn cc da dn dc ra rn rc ∧ u.grownBy u' (Value.slice ea en ec).ownBlock ∧ (∀ g, (Value.slice ea en ec).ownBlock = some g → B ≤ g ∧ ∃ cur, Whole u g 9 cur) := by
  obtain ⟨i0, hi, hz0, hz1, hz2⟩ := info_parts infoStr
  obtain ⟨v', u', hr, hv, hg, _⟩ := run_append_own (P := Try.prog) u B 22 ty 9 i0 _ 1 16 Try.underlying22 hi hz0 hz1 hz2 rfl (by decide) _ _ _ h.own.ex p 1 1 (strs [x]) (by simp [strs]) hx (strs_one _) (by unfold maxLen; omega) (by omega) hB
  obtain ⟨a', c', rfl⟩ := owns_form hv
  exact ⟨a', c', u', hr, ⟨(by rw [strs_append]; exact hv), owns_off h.own.im hg ((fun g hg hg' => h.ei g hg' hg)), owns_off h.own.cd hg (owns_ne h.own.cd h.own.ex (by decide)), owns_off h.own.dt hg (owns_ne h.own.dt h.own.ex (by decide)), owns_off h.own.rl hg (owns_ne h.own.rl h.own.ex (by decide))⟩, hg, fun g hg' => ⟨(owns_lt h.own.ex hg').1, owns_whole h.own.ex hg'⟩⟩
theorem app_im (h : OwnD B m u ea en ec ia im ic ca cn cc da dn dc ra rn rc) (hB : B ≤ u.heap.size) {ty : TypeId} (p : Addr) (x : List UInt8) (hx : ∀ j y, (strs [x])[j]? = some y → u.cell? (p.add j) = some y) (hn : im ≤ 65536) :
    ∃ a' c' u', (Builtin.append_ #[22, 22] ty #[.slice ia im ic, .slice (some p) 1 1]).run Try.prog u = .ok (.slice a' (im + 1) c') u' ∧ Own5 B { m with imps := m.imps ++ [x] } u' ea en ec a' ((im + 1)) c' ca cn cc da dn dc ra rn rc ∧ u.grownBy u' (Value.slice ia im ic).ownBlock ∧ (∀ g, (Value.slice ia im ic).ownBlock = some g → B ≤ g ∧ ∃ cur, Whole u g 9 cur) := by
  obtain ⟨i0, hi, hz0, hz1, hz2⟩ := info_parts infoStr
  obtain ⟨v', u', hr, hv, hg, _⟩ := run_append_own (P := Try.prog) u B 22 ty 9 i0 _ 1 16 Try.underlying22 hi hz0 hz1 hz2 rfl (by decide) _ _ _ h.own.im p 1 1 (strs [x]) (by simp [strs]) hx (strs_one _) (by unfold maxLen; omega) (by omega) hB
  obtain ⟨a', c', rfl⟩ := owns_form hv
  exact ⟨a', c', u', hr, ⟨owns_off h.own.ex hg (h.ei), (by rw [strs_append]; exact hv), owns_off h.own.cd hg (owns_ne h.own.cd h.own.im (by decide)), owns_off h.own.dt hg (owns_ne h.own.dt h.own.im (by decide)), owns_off h.own.rl hg (owns_ne h.own.rl h.own.im (by decide))⟩, hg, fun g hg' => ⟨(owns_lt h.own.im hg').1, owns_whole h.own.im hg'⟩⟩
theorem app_cd (h : OwnD B m u ea en ec ia im ic ca cn cc da dn dc ra rn rc) (hB : B ≤ u.heap.size) {ty : TypeId} (p : Addr) (x : Nat) (hx : ∀ j y, (u32s [x])[j]? = some y → u.cell? (p.add j) = some y) (hn : cn ≤ 65536) :
    ∃ a' c' u', (Builtin.append_ #[23, 23] ty #[.slice ca cn cc, .slice (some p) 1 1]).run Try.prog u = .ok (.slice a' (cn + 1) c') u' ∧ Own5 B { m with code := m.code ++ [x] } u' ea en ec ia im ic a' ((cn + 1)) c' da dn dc ra rn rc ∧ u.grownBy u' (Value.slice ca cn cc).ownBlock ∧ (∀ g, (Value.slice ca cn cc).ownBlock = some g → B ≤ g ∧ ∃ cur, Whole u g 39 cur) := by
  obtain ⟨i0, hi, hz0, hz1, hz2⟩ := info_parts infoWord
  obtain ⟨v', u', hr, hv, hg, _⟩ := run_append_own (P := Try.prog) u B 23 ty 39 i0 _ 1 4 Try.underlying23 hi hz0 hz1 hz2 rfl (by decide) _ _ _ h.own.cd p 1 1 (u32s [x]) (by simp [u32s]) hx (u32s_one _) (by unfold maxLen; omega) (by omega) hB
  obtain ⟨a', c', rfl⟩ := owns_form hv
  exact ⟨a', c', u', hr, ⟨owns_off h.own.ex hg (owns_ne h.own.ex h.own.cd (by decide)), owns_off h.own.im hg (owns_ne h.own.im h.own.cd (by decide)), (by rw [u32s_append]; exact hv), owns_off h.own.dt hg ((fun g hg hg' => h.cd g hg' hg)), owns_off h.own.rl hg (owns_ne h.own.rl h.own.cd (by decide))⟩, hg, fun g hg' => ⟨(owns_lt h.own.cd hg').1, owns_whole h.own.cd hg'⟩⟩
theorem app_dt (h : OwnD B m u ea en ec ia im ic ca cn cc da dn dc ra rn rc) (hB : B ≤ u.heap.size) {ty : TypeId} (p : Addr) (x : Nat) (hx : ∀ j y, (u32s [x])[j]? = some y → u.cell? (p.add j) = some y) (hn : dn ≤ 65536) :
    ∃ a' c' u', (Builtin.append_ #[23, 23] ty #[.slice da dn dc, .slice (some p) 1 1]).run Try.prog u = .ok (.slice a' (dn + 1) c') u' ∧ Own5 B { m with data := m.data ++ [x] } u' ea en ec ia im ic ca cn cc a' ((dn + 1)) c' ra rn rc ∧ u.grownBy u' (Value.slice da dn dc).ownBlock ∧ (∀ g, (Value.slice da dn dc).ownBlock = some g → B ≤ g ∧ ∃ cur, Whole u g 39 cur) := by
  obtain ⟨i0, hi, hz0, hz1, hz2⟩ := info_parts infoWord
  obtain ⟨v', u', hr, hv, hg, _⟩ := run_append_own (P := Try.prog) u B 23 ty 39 i0 _ 1 4 Try.underlying23 hi hz0 hz1 hz2 rfl (by decide) _ _ _ h.own.dt p 1 1 (u32s [x]) (by simp [u32s]) hx (u32s_one _) (by unfold maxLen; omega) (by omega) hB
  obtain ⟨a', c', rfl⟩ := owns_form hv
  exact ⟨a', c', u', hr, ⟨owns_off h.own.ex hg (owns_ne h.own.ex h.own.dt (by decide)), owns_off h.own.im hg (owns_ne h.own.im h.own.dt (by decide)), owns_off h.own.cd hg (h.cd), (by rw [u32s_append]; exact hv), owns_off h.own.rl hg (owns_ne h.own.rl h.own.dt (by decide))⟩, hg, fun g hg' => ⟨(owns_lt h.own.dt hg').1, owns_whole h.own.dt hg'⟩⟩
theorem app_rl (h : OwnD B m u ea en ec ia im ic ca cn cc da dn dc ra rn rc) (hB : B ≤ u.heap.size) {ty : TypeId} (p : Addr) (x : Rl) (hx : ∀ j y, (relC [x])[j]? = some y → u.cell? (p.add j) = some y) (hn : rn ≤ 65536) :
    ∃ a' c' u', (Builtin.append_ #[24, 24] ty #[.slice ra rn rc, .slice (some p) 1 1]).run Try.prog u = .ok (.slice a' (rn + 1) c') u' ∧ Own5 B { m with rels := m.rels ++ [x] } u' ea en ec ia im ic ca cn cc da dn dc a' ((rn + 1)) c' ∧ u.grownBy u' (Value.slice ra rn rc).ownBlock ∧ (∀ g, (Value.slice ra rn rc).ownBlock = some g → B ≤ g ∧ ∃ cur, Whole u g 38 cur) := by
  obtain ⟨i0, hi, hz0, hz1, hz2⟩ := info_parts infoRel
  obtain ⟨v', u', hr, hv, hg, _⟩ := run_append_own (P := Try.prog) u B 24 ty 38 i0 _ 3 6 Try.underlying24 hi hz0 hz1 hz2 rfl (by decide) _ _ _ h.own.rl p 1 1 (relC [x]) (by simp [relC]) hx (relC_one _) (by unfold maxLen; omega) (by omega) hB
  obtain ⟨a', c', rfl⟩ := owns_form hv
  exact ⟨a', c', u', hr, ⟨owns_off h.own.ex hg (owns_ne h.own.ex h.own.rl (by decide)), owns_off h.own.im hg (owns_ne h.own.im h.own.rl (by decide)), owns_off h.own.cd hg (owns_ne h.own.cd h.own.rl (by decide)), owns_off h.own.dt hg (owns_ne h.own.dt h.own.rl (by decide)), (by rw [relC_append]; exact hv)⟩, hg, fun g hg' => ⟨(owns_lt h.own.rl hg').1, owns_whole h.own.rl hg'⟩⟩
/-- a module's box is no row -/
theorem owns_box {v : Value} {e : TypeId} {size n b i : Nat} {xs : List Value} {cs : Array Value} (h : u.ownsRow B e size v n xs) (hX : Whole u b 26 cs) (hne : e ≠ 26) (y : Value) : (u.setCell ⟨b, i, none⟩ y).ownsRow B e size v n xs := by
  refine ⟨h.1, ?_⟩
  rcases h.2 with h0 | ⟨g, cap, cur, rfl, hb, hh, h3, h4, h5, h6⟩
  · exact Or.inl h0
  · refine Or.inr ⟨g, cap, cur, rfl, hb, ?_, h3, h4, h5, h6⟩
    rw [Below.heap_setCell _ _ _ _ (show g ≠ b from Whole.ne_ (w := u) hh hX hne)]
    exact hh
theorem Own5.box (h : Own5 B m u ea en ec ia im ic ca cn cc da dn dc ra rn rc) {b : Nat} {cs : Array Value} (hX : Whole u b 26 cs) (i : Nat) (y : Value) : Own5 B m (u.setCell ⟨b, i, none⟩ y) ea en ec ia im ic ca cn cc da dn dc ra rn rc :=
  ⟨owns_box h.ex hX (by decide) y, owns_box h.im hX (by decide) y, owns_box h.cd hX (by decide) y, owns_box h.dt hX (by decide) y, owns_box h.rl hX (by decide) y⟩
theorem OwnD.box (h : OwnD B m u ea en ec ia im ic ca cn cc da dn dc ra rn rc) {b : Nat} {cs : Array Value} (hX : Whole u b 26 cs) (i : Nat) (y : Value) : OwnD B m (u.setCell ⟨b, i, none⟩ y) ea en ec ia im ic ca cn cc da dn dc ra rn rc := ⟨h.own.box hX i y, h.ei, h.cd⟩
theorem OwnD.belowS {u' : World} (h : OwnD B m u ea en ec ia im ic ca cn cc da dn dc ra rn rc) (hb : Below u.heap.size u u') : OwnD B m u' ea en ec ia im ic ca cn cc da dn dc ra rn rc := ⟨h.own.belowS hb, h.ei, h.cd⟩
theorem readsR_lt {G : Nat → Prop} {w : World} {v : Value} {l : List Rl} (h : ReadsR G w v l) : ReadsR (· < w.heap.size) w v l := by
  obtain ⟨a, cap, e, h1, h2, h3, h4⟩ := h
  refine ⟨a, cap, e, h1, h2, h3, ?_⟩
  rcases h4 with h4 | ⟨g, off, ea, hg, hc⟩
  · exact Or.inl h4
  · by_cases h0 : l = []
    · exact Or.inl h0
    · refine Or.inr ⟨g, off, ea, ?_, hc⟩
      have : 0 < l.length := List.length_pos_iff.2 h0
      exact World.block_lt_of_cell? w _ (hc 0 this).1
theorem reads_lt {G : Nat → Prop} {w : World} {v : Value} {xs : List Value} (h : Reads G w v xs) : Reads (· < w.heap.size) w v xs := h.there.mono fun _ hg => hg.2
theorem RdM.lt {G : Nat → Prop} (h : RdM G u ea en ec ia im ic ca cn cc da dn dc ra rn rc m) : RdM (· < u.heap.size) u ea en ec ia im ic ca cn cc da dn dc ra rn rc m := ⟨reads_lt h.ex, reads_lt h.im, reads_lt h.cd, reads_lt h.dt, readsR_lt h.rl⟩
theorem Own5.lt (h : Own5 B m u ea en ec ia im ic ca cn cc da dn dc ra rn rc) : RdM (· < u.heap.size) u ea en ec ia im ic ca cn cc da dn dc ra rn rc m := h.reads.lt
end
end Go.Proofs.Ytdfafllldanfiaa.OR
