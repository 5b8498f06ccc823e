/-
  The first relocation that names each word, as the program gathers them in a map. Nothing here is a statement of the seed.
-/
import Derived.Test.YtajidaicojekdaaValMap
import Derived.Test.YtajidaicojekdaaValRel
import Derived.Test.YtajidaicojekdaaValM
set_option linter.unusedSimpArgs false
set_option linter.unusedVariables false
namespace Go.Proofs.Ytajidaicojekdaa.VR
open Go.RowKit WM NR OM OR VM
set_option maxHeartbeats 4000000
set_option maxRecDepth 10000
/-- does a relocation name this word? -/
def spB (l : List Rl) (d : Bool) (a : Int) (i : Nat) : Bool := decide (((l.getD i ⟨0, 0, 0⟩).at_ : Int) = a ∧ ofD ((l.getD i ⟨0, 0, 0⟩).kind : Int) = d)
/-- the first of k relocations that does -/
def nfF (l : List Rl) (k : Nat) (d : Bool) (a : Int) : Option Int := if 0 ≤ ff (spB l d a) k then some (ff (spB l d a) k) else none
theorem ff_range (p : Nat → Bool) (n : Nat) : ff p n = -1 ∨ ∃ i : Nat, i < n ∧ ff p n = i ∧ p i = true ∧ ∀ j, j < i → p j = false := by
  unfold ff
  cases e : (List.range n).find? p with
  | none => exact Or.inl rfl
  | some i =>
    rw [List.find?_range_eq_some] at e
    refine Or.inr ⟨i, by simpa using e.2.1, rfl, e.1, fun j hj => ?_⟩
    have := e.2.2 j hj
    simpa using this
theorem ff_succ (p : Nat → Bool) (k : Nat) : ff p (k + 1) = if 0 ≤ ff p k then ff p k else if p k = true then (k : Int) else -1 := by
  rcases ff_range p k with h | ⟨i, hi, h, hp, hb⟩
  · have hn : ∀ j, j < k → p j = false := ff_neg.1 (by omega)
    rw [h, if_neg (by omega)]
    by_cases hk : p k = true
    · rw [if_pos hk]
      exact ff_yes (by omega) hk hn
    · rw [if_neg hk]
      refine ff_no fun j hj => ?_
      by_cases e : j = k
      · rw [e]; simpa using hk
      · exact hn j (by omega)
  · rw [h, if_pos (by omega)]
    exact ff_yes (by omega) hp hb
theorem nf_yes {l : List Rl} {k : Nat} {d : Bool} {a : Int} (hs : ∀ d' a', spB l d' a' k = decide (a = a' ∧ d = d')) (h : (nfF l k d a).isSome = true) (d' : Bool) (a' : Int) : nfF l k d' a' = nfF l (k + 1) d' a' := by
  unfold nfF at h ⊢
  rw [ff_succ]
  by_cases h1 : 0 ≤ ff (spB l d' a') k
  · simp only [h1, if_true]
  · by_cases e : a = a' ∧ d = d'
    · obtain ⟨rfl, rfl⟩ := e
      rw [if_neg h1] at h
      simp at h
    · simp [h1, hs d' a', e]
theorem nf_no {l : List Rl} {k : Nat} {d : Bool} {a : Int} (hs : ∀ d' a', spB l d' a' k = decide (a = a' ∧ d = d')) (h : (nfF l k d a).isSome = false) (d' : Bool) (a' : Int) : (if d' = d ∧ a' = a then some (k : Int) else nfF l k d' a') = nfF l (k + 1) d' a' := by
  unfold nfF at h ⊢
  rw [ff_succ]
  by_cases e : d' = d ∧ a' = a
  · obtain ⟨rfl, rfl⟩ := e
    have h1 : ¬ 0 ≤ ff (spB l d' a') k := fun hh => by rw [if_pos hh] at h; simp at h
    simp [h1, hs d' a']
  · have e' : ¬ (a = a' ∧ d = d') := fun ⟨x, y⟩ => e ⟨y.symm, x.symm⟩
    rw [if_neg e]
    by_cases h1 : 0 ≤ ff (spB l d' a') k
    · simp only [h1, if_true]
    · simp [h1, hs d' a', e']
theorem sp_at (l : List Rl) (k : Nat) (d' : Bool) (a' : Int) : spB l d' a' k = decide (((l.getD k ⟨0, 0, 0⟩).at_ : Int) = a' ∧ ofD ((l.getD k ⟨0, 0, 0⟩).kind : Int) = d') := rfl
theorem namedFirst_any {w : World} {a : Option Addr} {n c : Nat} {l : List Rl} (h1 : ReadsR (· < w.heap.size) w (.slice a n c) l) (hf : ∀ k, k < n → (l.getD k ⟨0, 0, 0⟩).at_ ≤ 65535) :
    Calls Try.prog 138 #[.slice a n c] w fun e w' => ∃ b, e = .returned (.map (some b)) ∧ w.heap.size ≤ b ∧ MapF w' b n (nfF l n) ∧ Below w.heap.size w w' := by
  obtain ⟨n1, m1, m2⟩ := h1.len
  have m3 := m2
  unfold maxLen at m2
  have hn : (n : Int) ≤ 9223372036854775807 := by omega
  have HA := Lib.hid h1
  have HL := Lib.hid n1
  have HM := Lib.hid (show n ≤ maxLen by omega)
  have HF := Lib.hid hf
  have m1' : (n : Int) ≤ c := by omega
  have hmm := @run_makeMap Try.prog
  clear h1 n1 m1 m2 m3 hf
  go_enter Try.func138, Try.ntmps138
  go_wp2_with fail
  go_loopw [11] (fun i wr => ∃ k : Nat, k ≤ n ∧ i = .int .i64 (k : Int) ∧ Hid (MapF wr w.heap.size k (nfF l k)) ∧ Below w.heap.size w wr) (fun i _ => n - (intOf i).toNat)
  case atStart => exact ⟨0, by omega, rfl, Lib.hid ((MapF.made w).as (fun d a _ => rfl)), below_new w _⟩
  case round =>
    obtain ⟨k, hk, rfl, hm, hbl⟩ := hrel
    by_cases hlt : k < n
    · have hlt' : (k : Int) < n := by omega
      obtain ⟨g, off, rfl, q1, c0, c1, c2⟩ := HA.out.at hbl hlt
      have ha := Lib.hid (HF.out k hlt)
      have HS := Lib.hid (sp_at l k)
      generalize ((l.getD k ⟨0, 0, 0⟩).kind : Int) = y0 at *
      have ha2 : Hid (0 ≤ ((l.getD k ⟨0, 0, 0⟩).at_ : Int) ∧ ((l.getD k ⟨0, 0, 0⟩).at_ : Int) ≤ 65535) := Lib.hid (by have := ha.out; omega)
      clear ha
      generalize ((l.getD k ⟨0, 0, 0⟩).at_ : Int) = y1 at *
      generalize ((l.getD k ⟨0, 0, 0⟩).wh : Int) = y2 at *
      have hm0 := Lib.hid (hm.out.belowS (below_new wr (.cells #[.int .u8 y0, .int .u16 y1, .int .u16 y2] 76)))
      have hp0 := Lib.hid (Whole.new wr 76 #[.int .u8 y0, .int .u16 y1, .int .u16 y2])
      have hbz := hbl.size
      have CS := Lib.hid (fun u => spotOf_any y0 y1 y2 u)
      obtain ⟨o, ho⟩ : ∃ o, o = nfF l k (ofD y0) y1 := ⟨_, rfl⟩
      have HO := Lib.hid ho
      clear ho
      generalize ofD y0 = d at *
      have hB0 := Lib.hid (hbl.trans ((below_new wr (.cells #[.int .u8 y0, .int .u16 y1, .int .u16 y2] 76)).mono hbl.size))
      have hkk : (-9223372036854775808 : Int) ≤ k ∧ (k : Int) ≤ 9223372036854775807 := by omega
      have HK := Lib.hid hkk
      clear hkk
      cases o with
      | some v =>
        go_wp2_with (go_at_call 139; (with_reducible refine (CS.out _).mono ?_); rintro e w1 ⟨rfl, hb1⟩; have hm1 := Lib.hid (hm0.out.belowS hb1); have L := hm1.out.look_ok d y1 ha2.out; rw [← HO.out] at L; simp only [Option.isSome_some] at L; have hB1 := hB0.out.trans (hb1.mono hB0.out.size); clear hb1)
        go_roundw
        case rel => exact ⟨k + 1, by omega, by go_num, Lib.hid ((hm1.out.mono (by omega)).as (fun d' a' _ => nf_yes HS.out (by rw [← HO.out]; rfl) d' a')), hB1⟩
        case measure => simp [intOf]; omega
      | none =>
        go_wp2_with (first | (go_at_call 139; (with_reducible refine (CS.out _).mono ?_); rintro e w1 ⟨rfl, hb1⟩; have hm1 := Lib.hid (hm0.out.belowS hb1); have L := hm1.out.look_ok d y1 ha2.out; rw [← HO.out] at L; simp only [Option.isSome_none] at L; have hB1 := hB0.out.trans (hb1.mono hB0.out.size); obtain ⟨c10, c11, c12⟩ := rel_cells (hp0.out.belowS hb1); clear hb1) | (go_at_call 139; (with_reducible refine (CS.out _).mono ?_); rintro e w2 ⟨rfl, hb2⟩; obtain ⟨w3, R3, hm3, hg3⟩ := (hm1.out.belowS hb2).put (by have := HM.out; omega) d y1 ha2.out (k : Int) HK.out; have hB2 := hB1.trans (hb2.mono hB1.size); have HM3 := Lib.hid hm3; have hB3 := below_then hB2 hg3 (Nat.le_refl _) hB2.size; clear hb2 hm3))
        go_roundw
        case rel => exact ⟨k + 1, by omega, by go_num, Lib.hid (HM3.out.as (fun d' a' _ => nf_no HS.out (by rw [← HO.out]; rfl) d' a')), hB3⟩
        case measure => simp [intOf]; omega
    · obtain rfl : k = n := by omega
      go_wp2_with fail
      go_ret
      exact ⟨_, rfl, Nat.le_refl _, hm.out, hbl⟩
end Go.Proofs.Ytajidaicojekdaa.VR
