/-
  The program's Deps and Reaches. Nothing here is a statement of the seed.
-/
import Derived.Test.YtijcojidfallkaaGraphPD
import Derived.Test.YtijcojidfallkaaGraphRef2
import Derived.Test.YtijcojidfallkaaIter
import Derived.Sort.KeysCollected
import Derived.Sort.Walk0
set_option linter.unusedSimpArgs false
set_option linter.unusedVariables false
namespace Go.Proofs.Ytijcojidfallkaa.GP
open Go.RowKit WM NR OM OR GM GR MV GF
set_option maxHeartbeats 4000000
set_option maxRecDepth 10000
/-- texts, sorted, each once -/
theorem sort_set {ss : List Tx} (hnd : ss.Nodup) : ss.mergeSort (fun x y => decide (x ≤ y)) = setM ss := by
  have tr : ∀ a b c : List UInt8, leB a b = true → leB b c = true → leB a c = true := fun a b c h1 h2 => by simp only [leB, decide_eq_true_eq] at *; exact List.le_trans h1 h2
  have tot : ∀ a b : List UInt8, (leB a b || leB b a) = true := fun a b => by simp only [leB, Bool.or_eq_true, decide_eq_true_eq]; exact List.le_total a b
  have hp := List.mergeSort_perm ss leB
  have h1 := List.pairwise_mergeSort tr tot ss
  have h2 : (ss.mergeSort leB).Nodup := hp.nodup_iff.2 hnd
  refine rise_ext ?_ (rise_set ss) fun x => by rw [mem_set]; exact hp.mem_iff
  refine (h1.and h2).imp fun {x y} hxy => ?_
  obtain ⟨h3, h4⟩ := hxy
  by_cases h5 : Op.bytesLess x y = true
  · exact h5
  · have h6 : Op.bytesLess y x = false := by
      rw [bytesLess_eq]
      simp only [leB, decide_eq_true_eq] at h3
      exact decide_eq_false (List.not_lt.2 h3)
    exact absurd (less_tri x y (by simpa using h5) h6) h4
theorem keys_perm {u : World} {b n : Nat} {L : List Tx} {D : DataW Value} (h : u.ownsMap Try.prog 9 (Rv any) b n D) (ht : Tells any D (memF L)) (hd : L.Nodup) (hl : ∀ x ∈ L, x.length ≤ maxLen) : L.Perm (strKeys D) := by
  refine Collected.perm (left := fun _ => false) ⟨hd, fun x => ?_⟩ h (Go.Maps.string_keyed Try.underlying9) Try.underlying9 (fun _ => rfl)
  constructor
  · intro hx
    refine ⟨?_, rfl⟩
    rw [(ht x (hl x hx)).1, memF_isSome]
    exact decide_eq_true hx
  · rintro ⟨hx, _⟩
    have hxl : x.length ≤ maxLen := by
      obtain ⟨es, rfl, hko⟩ := h.keysOf
      rw [Maps.has_eq] at hx
      obtain ⟨p, hp, hs⟩ := List.any_eq_true.1 hx
      obtain ⟨v, hv⟩ := hko p hp
      obtain ⟨y, _, hy, hyl⟩ := Maps.keyOf_str Try.underlying9 hv
      rw [hy] at hs
      have : y = x := by simpa [Lit.sameKey] using hs
      rw [← this]; exact hyl
    rw [(ht x hxl).1, memF_isSome] at hx
    exact of_decide_eq_true hx
theorem encStr_strs (l : List Tx) : l.map encStr = strs l := rfl
section
variable {S : Nat → Prop} {w u : World} {a b : Nat} {k : Tx → Nat} {g : List Nd}
theorem deps_pt (h : Pt S w a b k g) (hg : GM.Good g) (hb : g.length ≤ 300) (m : List UInt8) (hm : m.length ≤ 9223372036854775807) :
    Calls Try.prog 18 #[.pointer (some ⟨a, 0, none⟩), .string (bs m)] w (IsL w (depsM g m)) := by
  have C1 := Lib.hid (all_any h)
  have hl := h.look hm
  by_cases hn : hasM g m = true
  · obtain ⟨h1, h2, h3⟩ := h.deps hg hn
    rw [h1] at hl
    simp only [Option.getD_some] at hl
    obtain ⟨D, hD, ht⟩ := h2
    have hr := hg.deps_rise m
    have hlen : (depsM g m).length ≤ g.length := nodup_len hr.nodup fun x hx => hg.dep_node hx
    have hp := keys_perm hD ht hr.nodup (fun x hx => h.has_len (hg.dep_node hx))
    have hsz : Maps.size D ≤ (depsM g m).length := tells_size hD Try.underlying9 ht (fun s _ hs => by
      obtain ⟨v, hv⟩ := Option.isSome_iff_exists.1 hs
      exact memF_some hv)
    have C2 := Lib.hid (Try.keys_any (some (k m)) w)
    have C3 := Lib.hid ((Try.sorted_any (k m) _ D (Rv any) w hD (by unfold maxLen; omega) (by omega)).mono (R' := IsL w (depsM g m)) (by
      rintro e u ⟨v, ss, rfl, hs, ho, _, hb1⟩
      have hs2 : ss.Perm (depsM g m) := hs.trans hp.symm
      have e1 : ss.mergeSort (fun x y => decide (x ≤ y)) = depsM g m := by
        rw [sort_set (hs2.nodup_iff.2 hr.nodup), ← set_self hr]
        exact set_ext fun x => hs2.mem_iff
      rw [e1, encStr_strs] at ho
      exact isL_own ho hs2.length_eq.symm (below_of ((Below.refl _ _).alloc (Nat.le_refl _) _) hb1) (by simp)))
    clear h h1 h3 hn hm hb hr hD ht hp hlen hsz hg
    generalize depsM g m = d at *
    generalize k m = c at *
    generalize bs m = x at *
    go_enter Try.func18, Try.ntmps18
    go_wp2_with (first
      | (go_at_call 41; (with_reducible refine C1.out.mono ?_); rintro e w1 ⟨rfl, rfl⟩)
      | (go_at_call 40; (with_reducible refine C2.out.mono ?_); rintro e w2 ⟨rfl, rfl⟩)
      | (go_at_call 39; (with_reducible refine C3.out.mono ?_); rintro e w3 ⟨sa, sc, rfl, hR, hB⟩; have HR := Lib.hid hR; clear hR))
    go_ret
    exact ⟨sa, sc, rfl, HR.out, hB⟩
  · rw [nodF_no (by simpa using hn)] at hl
    simp only [Option.getD_none] at hl
    rw [deps_no (by simpa using hn)]
    have C2 := Lib.hid (Try.keys_any none w)
    have C3 := Lib.hid ((Try.sorted_nil w).mono (R' := IsL w []) (by
      rintro e u ⟨v, ss, rfl, rfl, ho, _, hb1⟩
      have ho' : u.ownsRow (w.heap.size + 1) 9 1 v 0 (strs []) := by simpa [strs] using ho
      exact isL_own (n := 0) ho' rfl (below_of ((Below.refl _ _).alloc (Nat.le_refl _) _) hb1)))
    clear h hn hm hb hg
    generalize bs m = x at *
    go_enter Try.func18, Try.ntmps18
    go_wp2_with (first
      | (go_at_call 41; (with_reducible refine C1.out.mono ?_); rintro e w1 ⟨rfl, rfl⟩)
      | (go_at_call 40; (with_reducible refine C2.out.mono ?_); rintro e w2 ⟨rfl, rfl⟩)
      | (go_at_call 39; (with_reducible refine C3.out.mono ?_); rintro e w3 ⟨sa, sc, rfl, hR, hB⟩; have HR := Lib.hid hR; clear hR))
    go_ret
    exact ⟨sa, sc, rfl, HR.out, hB⟩
theorem deps_any {v : Value} (h : PT S w v g) (hg : GM.Good g) (hb : g.length ≤ 100) (m : List UInt8) (hm : m.length ≤ 9223372036854775807) :
    Calls Try.prog 18 #[v, .string (bs m)] w (IsL w (depsM g m)) := by
  obtain ⟨a, b, k, rfl, h⟩ := h
  exact deps_pt h hg (by omega) m hm
theorem reaches_any {v : Value} (h : PT S w v g) (hg : GM.Good g) (hb : g.length ≤ 100) (x y : List UInt8) (hx : x.length ≤ 9223372036854775807) (hy : y.length ≤ 9223372036854775807) :
    Calls Try.prog 20 #[v, .string (bs x), .string (bs y)] w fun e u => e = .returned (.bool (reachesM g x y)) ∧ Below w.heap.size w u := by
  obtain ⟨a, b, k, rfl, h⟩ := h
  have C1 := Lib.hid (deps_pt h hg (by omega) x hx)
  have hlen : (depsM g x).length ≤ g.length := nodup_len (hg.deps_rise x).nodup fun x hx => hg.dep_node hx
  have C2 := Lib.hid (fun (u : World) (hu : Below w.heap.size w u) (na : Option Addr) (nc : Nat) (hr : Reads (fun c => w.heap.size ≤ c ∧ c < u.heap.size) u (.slice na (depsM g x).length nc) (strs (depsM g x))) => reached_pt (h.below hu) hg (by omega) (hr.mono fun c hc => hc.2) (fun d hd => hg.dep_node hd) (by omega))
  have C3 := Lib.hid (fun (u : World) (c : Nat) (L : List Tx) (hl : ME u c (memF L)) => sethas_any hl y hy)
  have HE : Hid (∀ L : List Tx, (∀ z, z ∈ L ↔ ∃ d ∈ depsM g x, z = d ∨ GM.Reach g d z) → decide (y ∈ L) = reachesM g x y) := Lib.hid (fun L hL => by
    rw [Bool.eq_iff_iff, decide_eq_true_eq, reaches_iff hg, hL y]
    constructor
    · rintro ⟨d, hd, rfl | e⟩
      · exact .one hd
      · exact .more hd e
    · intro e
      cases e with
      | one e => exact ⟨y, e, Or.inl rfl⟩
      | more e1 e2 => exact ⟨_, e1, Or.inr e2⟩)
  clear h hg hb hx hy hlen
  generalize reachesM g x y = r at *
  generalize bs x = x' at *
  generalize bs y = y' at *
  go_enter Try.func20, Try.ntmps20
  go_wp2_with (first
    | (go_at_call 18; (with_reducible refine C1.out.mono ?_); rintro e w1 ⟨sa, sc, rfl, hR, hb1⟩; have C4 := Lib.hid (C2.out w1 hb1 sa sc hR); clear hR)
    | (go_at_call 38; (with_reducible refine C4.out.mono ?_); rintro e w3 ⟨c, L, rfl, hl3, hL3, hb3⟩; have C6 := Lib.hid (C3.out _ c L hl3); rw [HE.out L hL3] at C6; have hB3 := below_of hb1 hb3; clear hL3 hl3)
    | (go_at_call 37; (with_reducible refine C6.out.mono ?_); rintro e w4 ⟨rfl, hb4⟩))
  go_ret
  exact ⟨rfl, below_of hB3 hb4⟩
end
end Go.Proofs.Ytijcojidfallkaa.GP
