/-
  The program's Add and Turn. Nothing here is a statement of the seed.
-/
import Derived.Test.YtijcojidfallkaaGraphPB
set_option linter.unusedSimpArgs false
set_option linter.unusedVariables false
namespace Go.Proofs.Ytijcojidfallkaa.GP
open Go.RowKit WM NR OM OR GM GR MV
set_option maxHeartbeats 4000000
set_option maxRecDepth 10000
section
variable {S : Nat → Prop} {w u : World} {a b : Nat} {k : Tx → Nat} {g g' : List Nd}
/-- behind a put the graph has the node -/
theorem Pt.puts (h : Pt S w a b k g) {m : Tx} {xs : List Tx} (hm : m.length ≤ maxLen) (hs : ∀ x ∈ g', x = ⟨m, setM xs⟩ ∨ (x ∈ g ∧ x.nm ≠ m)) (hh : ∀ s, hasM g' s = true ↔ s = m ∨ hasM g s = true) {q : Nat} (hq : w.heap.size ≤ q) (hql : q < u.heap.size) (hme : ME u q (memF xs)) (hmb : ME u b (fun s => if s = m then some (.map (some q)) else nodF k g s)) (hf : Fr (· = b) w u) :
    Chg S w (.pointer (some ⟨a, 0, none⟩)) g' u := by
  have hsl : ∀ c, S c → c ≠ q := fun c hc => by have := h.lt c hc; omega
  refine ⟨fun c => S c ∨ c = q, ⟨a, b, fun s => if s = m then q else k s, rfl, ⟨h.hd.as (hf.block a h.hd.lt h.a_ne), hmb.as fun s _ => ?_, fun x hx => ?_, Or.inl h.sa, Or.inl h.sb, fun x hx => ?_, fun x hx => ?_, ?_, fun x hx => ?_⟩⟩, ?_, hf.mono fun i hi => Or.inl (hi ▸ h.sb)⟩
  · unfold nodF
    by_cases e : s = m
    · rw [if_pos e, if_pos ((hh s).2 (Or.inl e))]
      simp only [if_pos e]
    · rw [if_neg e]
      by_cases e2 : hasM g s = true
      · rw [if_pos e2, if_pos ((hh s).2 (Or.inr e2))]
        simp only [if_neg e]
      · rw [if_neg e2, if_neg (fun h3 => ((hh s).1 h3).elim e e2)]
  · rcases hs x hx with rfl | ⟨h1, h2⟩
    · simp only [if_true]
      rw [memF_ext (b := xs) (fun y => mem_set)]
      exact hme
    · simp only [if_neg h2]
      exact (h.st x h1).same (hf.block _ (h.lt _ (h.sk x h1)) (h.nb x h1))
  · rcases hs x hx with rfl | ⟨h1, h2⟩
    · simp only [if_true]; exact Or.inr trivial
    · simp only [if_neg h2]; exact Or.inl (h.sk x h1)
  · have hb := h.lt b h.sb
    rcases hs x hx with rfl | ⟨h1, h2⟩
    · simp only [if_true]; omega
    · simp only [if_neg h2]; exact h.nb x h1
  · rintro c (hc | rfl)
    · exact Nat.lt_of_lt_of_le (h.lt c hc) hf.size
    · exact hql
  · rcases hs x hx with rfl | ⟨h1, h2⟩
    · exact hm
    · exact h.zn x h1
  · rintro c (hc | rfl)
    · exact Or.inl hc
    · exact Or.inr hq
theorem add_any {v : Value} (h : PT S w v g) (hg : GM.Good g) (hb : g.length ≤ 100) (m : List UInt8) (hm : m.length ≤ 281474976710656) {na : Option Addr} {nn nc : Nat} {xs : List (List UInt8)} (hx : Reads (fun b => ¬ S b ∧ b < w.heap.size) w (.slice na nn nc) (strs xs)) (hxs : ∀ x ∈ xs, x.length ≤ 281474976710656) (hxl : xs.length ≤ 1000) :
    Calls Try.prog 14 #[v, .string (bs m), .slice na nn nc] w fun e u => e = .returned (.int .i64 (addM g m xs).2) ∧ Chg S w v (addM g m xs).1 u := by
  obtain ⟨a, b, k, rfl, h⟩ := h
  have hxr := fun (u : World) (hu : Below w.heap.size w u) => (hx.keep (w' := u) fun c hc _ => hu.block c hc.2)
  have C1 := Lib.hid (fun (u : World) (hu : Below w.heap.size w u) => has_pt (h.below hu) m (by omega))
  have C2 := Lib.hid (fun (u : World) (hu : Below w.heap.size w u) => lacks_all (h.below hu) ((hxr u hu).mono fun c hc => Nat.lt_of_lt_of_le hc.2 hu.size) (fun x hx => by have := hxs x hx; omega))
  have C3 := Lib.hid (fun (u : World) (hu : Below w.heap.size w u) => put_pt (h.below hu) hg (by omega) m hm ((hxr u hu).mono fun c hc => ⟨hc.1, Nat.lt_of_lt_of_le hc.2 hu.size⟩) hxs (by omega))
  have R := Lib.hid (fun (u : World) (hu : Below w.heap.size w u) => h.chg_below hu)
  have hh : hasM g m = false → allM g xs = true → ∀ (u u2 : World), Below w.heap.size w u → (∃ q, u.heap.size ≤ q ∧ q < u2.heap.size ∧ ME u2 q (memF xs) ∧ ME u2 b (fun s => if s = m then some (.map (some q)) else nodF k g s) ∧ Fr (· = b) u u2) → Chg S w (.pointer (some ⟨a, 0, none⟩)) (withM g ⟨m, setM xs⟩) u2 := by
    rintro h1 h2 u u2 hu ⟨q, q1, q2, q3, q4, q5⟩
    obtain ⟨S', p1, p2, p3⟩ := (h.below hu).puts (m := m) (g' := withM g ⟨m, setM xs⟩) (by unfold maxLen; omega) (fun x hx => by
      rcases mem_with.1 hx with e | hx
      · exact Or.inl e
      · exact Or.inr ⟨hx, has_no.1 h1 x hx⟩) (fun s => has_with) q1 q2 q3 q4 q5
    exact ⟨S', p1, fun c hc => (p2 c hc).imp id (fun h => Nat.le_trans hu.size h), (Fr.of_below hu).trans p3 (fun i hi => Or.inl hi)⟩
  have HC := Lib.hid hh
  clear hxr hx hxs hxl hm hb hg h hh
  unfold addM
  generalize bs m = x at *
  cases h1 : hasM g m with
  | true =>
    rw [h1] at C1
    clear C2 C3 HC h1
    simp only [if_true]
    go_enter Try.func14, Try.ntmps14
    go_wp2_with (go_at_call 17; (with_reducible refine (C1.out _ (Below.refl _ _)).mono ?_); rintro e w1 ⟨rfl, hb1⟩)
    go_ret
    exact ⟨rfl, R.out _ hb1⟩
  | false =>
    simp only [Bool.false_eq_true, if_false]
    rw [h1] at C1
    cases h2 : allM g xs with
    | false =>
      rw [h2] at C2
      clear C3 HC h1 h2
      simp only [if_true]
      go_enter Try.func14, Try.ntmps14
      go_wp2_with (first
        | (go_at_call 17; (with_reducible refine (C1.out _ (Below.refl _ _)).mono ?_); rintro e w1 ⟨rfl, hb1⟩)
        | (go_at_call 34; (with_reducible refine (C2.out _ hb1).mono ?_); rintro e w2 ⟨rfl, hb2⟩))
      go_ret
      exact ⟨rfl, R.out _ (below_of hb1 hb2)⟩
    | true =>
      rw [h2] at C2
      have HC2 := Lib.hid (HC.out h1 h2)
      clear R HC h1 h2
      simp only [Bool.true_eq_false, if_false]
      go_enter Try.func14, Try.ntmps14
      go_wp2_with (first
        | (go_at_call 17; (with_reducible refine (C1.out _ (Below.refl _ _)).mono ?_); rintro e w1 ⟨rfl, hb1⟩)
        | (go_at_call 34; (with_reducible refine (C2.out _ hb1).mono ?_); rintro e w2 ⟨rfl, hb2⟩)
        | (go_at_call 36; (with_reducible refine (C3.out _ (below_of hb1 hb2)).mono ?_); rintro e w3 ⟨rfl, hq3⟩))
      go_ret
      exact ⟨rfl, HC2.out _ _ (below_of hb1 hb2) hq3⟩
theorem turn_any {v : Value} (h : PT S w v g) (hg : GM.Good g) (hb : g.length ≤ 100) (m : List UInt8) (hm : m.length ≤ 281474976710656) {na : Option Addr} {nn nc : Nat} {xs : List (List UInt8)} (hx : Reads (fun b => ¬ S b ∧ b < w.heap.size) w (.slice na nn nc) (strs xs)) (hxs : ∀ x ∈ xs, x.length ≤ 281474976710656) (hxl : xs.length ≤ 1000) :
    Calls Try.prog 16 #[v, .string (bs m), .slice na nn nc] w fun e u => e = .returned (.int .i64 (turnM g m xs).2) ∧ Chg S w v (turnM g m xs).1 u := by
  obtain ⟨a, b, k, rfl, h⟩ := h
  have hxr := fun (u : World) (hu : Below w.heap.size w u) => (hx.keep (w' := u) fun c hc _ => hu.block c hc.2)
  have hxb := fun (u : World) (hu : Below w.heap.size w u) => ((hxr u hu).mono fun c hc => Nat.lt_of_lt_of_le hc.2 hu.size : Reads (· < u.heap.size) u (.slice na nn nc) (strs xs))
  have C1 := Lib.hid (fun (u : World) (hu : Below w.heap.size w u) => lacks_any (h.below hu) m (by omega))
  have C2 := Lib.hid (fun (u : World) (hu : Below w.heap.size w u) => lacks_all (h.below hu) (hxb u hu) (fun x hx => by have := hxs x hx; omega))
  have C3 := Lib.hid (fun (u : World) (hu : Below w.heap.size w u) => put_pt (h.below hu) hg (by omega) m hm ((hxr u hu).mono fun c hc => ⟨hc.1, Nat.lt_of_lt_of_le hc.2 hu.size⟩) hxs (by omega))
  have C4 := Lib.hid (fun (u : World) (hu : Below w.heap.size w u) (hxn : ∀ x ∈ xs, hasM g x = true) => reached_pt (h.below hu) hg (by omega) (hxb u hu) hxn (by omega))
  have C5 := Lib.hid (fun (u : World) (c : Nat) (L : List Tx) (hl : ME u c (memF L)) => sethas_any hl m (by omega))
  have R := Lib.hid (fun (u : World) (hu : Below w.heap.size w u) => h.chg_below hu)
  have hh : hasM g m = true → allM g xs = true → ∀ (u u2 : World), Below w.heap.size w u → (∃ q, u.heap.size ≤ q ∧ q < u2.heap.size ∧ ME u2 q (memF xs) ∧ ME u2 b (fun s => if s = m then some (.map (some q)) else nodF k g s) ∧ Fr (· = b) u u2) → Chg S w (.pointer (some ⟨a, 0, none⟩)) (withM (outM g m) ⟨m, setM xs⟩) u2 := by
    rintro h1 h2 u u2 hu ⟨q, q1, q2, q3, q4, q5⟩
    obtain ⟨S', p1, p2, p3⟩ := (h.below hu).puts (m := m) (g' := withM (outM g m) ⟨m, setM xs⟩) (by unfold maxLen; omega) (fun x hx => by
      rcases mem_with.1 hx with e | hx
      · exact Or.inl e
      · exact Or.inr (mem_out.1 hx)) (fun s => by
        rw [has_with, has_out]
        exact ⟨fun h => h.elim Or.inl fun h => Or.inr h.1, fun h => h.elim Or.inl fun h => by
          by_cases e : s = m
          · exact Or.inl e
          · exact Or.inr ⟨h, e⟩⟩) q1 q2 q3 q4 q5
    exact ⟨S', p1, fun c hc => (p2 c hc).imp id (fun h => Nat.le_trans hu.size h), (Fr.of_below hu).trans p3 (fun i hi => Or.inl hi)⟩
  have HC := Lib.hid hh
  have HD : Hid (∀ L : List Tx, (∀ x, x ∈ L ↔ ∃ d ∈ xs, x = d ∨ GM.Reach g d x) → (m ∈ L ↔ ∃ d ∈ xs, d = m ∨ reachesM g d m = true)) := Lib.hid (fun L hL => by
    rw [hL m]
    constructor
    · rintro ⟨d, hd, e | e⟩
      · exact ⟨d, hd, Or.inl e.symm⟩
      · exact ⟨d, hd, Or.inr ((reaches_iff hg).2 e)⟩
    · rintro ⟨d, hd, e | e⟩
      · exact ⟨d, hd, Or.inl e.symm⟩
      · exact ⟨d, hd, Or.inr ((reaches_iff hg).1 e)⟩)
  clear hxr hxb hx hxs hxl hm hb hg h hh
  unfold turnM
  generalize bs m = x at *
  cases h1 : hasM g m with
  | false =>
    rw [h1] at C1
    clear C2 C3 C4 C5 HC HD h1
    simp only [true_or, if_true]
    go_enter Try.func16, Try.ntmps16
    go_wp2_with (go_at_call 35; (with_reducible refine (C1.out _ (Below.refl _ _)).mono ?_); rintro e w1 ⟨rfl, hb1⟩)
    go_ret
    exact ⟨rfl, R.out _ hb1⟩
  | true =>
    rw [h1] at C1
    simp only [Bool.true_eq_false, false_or]
    cases h2 : allM g xs with
    | false =>
      rw [h2] at C2
      clear C3 C4 C5 HC HD h1 h2
      simp only [if_true]
      go_enter Try.func16, Try.ntmps16
      go_wp2_with (first
        | (go_at_call 35; (with_reducible refine (C1.out _ (Below.refl _ _)).mono ?_); rintro e w1 ⟨rfl, hb1⟩)
        | (go_at_call 34; (with_reducible refine (C2.out _ hb1).mono ?_); rintro e w2 ⟨rfl, hb2⟩))
      go_ret
      exact ⟨rfl, R.out _ (below_of hb1 hb2)⟩
    | true =>
      rw [h2] at C2
      have HC2 := Lib.hid (HC.out h1 h2)
      have C4' := Lib.hid (fun (u : World) (hu : Below w.heap.size w u) => C4.out u hu (all_iff.1 h2))
      clear HC h1 h2 C4
      simp only [Bool.true_eq_false, if_false]
      by_cases hcy : ∃ d ∈ xs, d = m ∨ reachesM g d m = true
      · rw [if_pos hcy]
        have HD2 := Lib.hid (fun L hL => decide_eq_true ((HD.out L hL).2 hcy))
        clear hcy C3 HC2 HD
        go_enter Try.func16, Try.ntmps16
        go_wp2_with (first
          | (go_at_call 35; (with_reducible refine (C1.out _ (Below.refl _ _)).mono ?_); rintro e w1 ⟨rfl, hb1⟩)
          | (go_at_call 34; (with_reducible refine (C2.out _ hb1).mono ?_); rintro e w2 ⟨rfl, hb2⟩)
          | (go_at_call 38; (with_reducible refine (C4'.out _ (below_of hb1 hb2)).mono ?_); rintro e w3 ⟨c, L, rfl, hl3, hL3, hb3⟩; have C6 := Lib.hid (C5.out _ c L hl3); rw [HD2.out L hL3] at C6; clear hL3 hl3)
          | (go_at_call 37; (with_reducible refine C6.out.mono ?_); rintro e w4 ⟨rfl, hb4⟩))
        go_ret
        exact ⟨rfl, R.out _ (below_of (below_of (below_of hb1 hb2) hb3) hb4)⟩
      · rw [if_neg hcy]
        have HD2 := Lib.hid (fun L hL => decide_eq_false (fun h => hcy ((HD.out L hL).1 h)))
        clear hcy R HD
        go_enter Try.func16, Try.ntmps16
        go_wp2_with (first
          | (go_at_call 35; (with_reducible refine (C1.out _ (Below.refl _ _)).mono ?_); rintro e w1 ⟨rfl, hb1⟩)
          | (go_at_call 34; (with_reducible refine (C2.out _ hb1).mono ?_); rintro e w2 ⟨rfl, hb2⟩)
          | (go_at_call 38; (with_reducible refine (C4'.out _ (below_of hb1 hb2)).mono ?_); rintro e w3 ⟨c, L, rfl, hl3, hL3, hb3⟩; have C6 := Lib.hid (C5.out _ c L hl3); rw [HD2.out L hL3] at C6; have hB3 := below_of (below_of hb1 hb2) hb3; clear hL3 hl3)
          | (go_at_call 37; (with_reducible refine C6.out.mono ?_); rintro e w4 ⟨rfl, hb4⟩)
          | (go_at_call 36; (with_reducible refine (C3.out _ (below_of hB3 hb4)).mono ?_); rintro e w5 ⟨rfl, hq5⟩))
        go_ret
        exact ⟨rfl, HC2.out _ _ (below_of hB3 hb4) hq5⟩
end
end Go.Proofs.Ytijcojidfallkaa.GP
