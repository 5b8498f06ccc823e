/-
  Rows of texts in a map's hands; how many a set has. Nothing here is a statement of the seed.
-/
import Derived.Test.YtijcojidfallkaaGraphPE
import Derived.Test.YtijcojidfallkaaGraphHE
import Derived.Test.YtijcojidfallkaaGraphOM
set_option linter.unusedSimpArgs false
set_option linter.unusedVariables false
namespace Go.Proofs.Ytijcojidfallkaa.GO
open Go.RowKit WM NR OM OR GM GR MV GF GP GH
set_option maxHeartbeats 4000000
set_option maxRecDepth 10000
theorem own_same {w u : World} {B : Nat} {e : TypeId} {size n : Nat} {v : Value} {xs : List Value} (h : w.ownsRow B e size v n xs) (hk : ∀ c, v.ownBlock = some c → u.heap[c]? = w.heap[c]?) : u.ownsRow B e size v n xs := by
  refine ⟨h.1, ?_⟩
  rcases h.2 with h1 | ⟨g, cap, cur, rfl, h1, h2, h3⟩
  · exact Or.inl h1
  · exact Or.inr ⟨g, cap, cur, rfl, h1, by rw [hk g rfl]; exact h2, h3⟩
theorem set_len {u : World} {b : Nat} {L : List Tx} (h : ME u b (memF L)) (hd : L.Nodup) (hl : ∀ x ∈ L, x.length ≤ maxLen) : ∃ (n : Nat) (D : DataW Value), u.ownsMap Try.prog 9 (Rv any) b n D ∧ Maps.size D = L.length := by
  obtain ⟨D, hD, ht⟩ := h
  refine ⟨_, D, hD, ?_⟩
  have hp := keys_perm hD ht hd hl
  obtain ⟨es, rfl, _⟩ := hD.keysOf
  rw [hp.length_eq]
  show es.length = (es.map _).length
  rw [List.length_map]
/-- rows of texts, each in a block of its own, in the hands of a map; X: blocks that are none of theirs -/
structure DM (B : Nat) (X : Nat → Prop) (w : World) (b2 : Nat) (g : List Nd) (fd : Tx → Option Value) (vd : Tx → Value) (Dc : Tx → List Tx) : Prop where
  me : ME w b2 fd
  lk : ∀ d, (fd d).getD (.slice none 0 0) = vd d
  ky : ∀ d, (fd d).isSome = true → hasM g d = true
  ow : ∀ d, w.ownsRow B 9 1 (vd d) (Dc d).length (strs (Dc d))
  pw : ∀ d e, d ≠ e → ∀ c, (vd d).ownBlock = some c → (vd e).ownBlock ≠ some c
  xx : ∀ d c, (vd d).ownBlock = some c → ¬ X c
  xl : ∀ c, X c → c < w.heap.size
  xb : ¬ X b2
  lt : b2 < B
section
variable {B b2 : Nat} {X X' Z : Nat → Prop} {w u u0 u1 u2 : World} {g : List Nd} {fd : Tx → Option Value} {vd : Tx → Value} {Dc : Tx → List Tx}
theorem DM.blk (h : DM B X w b2 g fd vd Dc) {d : Tx} {c : Nat} (hc : (vd d).ownBlock = some c) : B ≤ c ∧ c < w.heap.size := (h.ow d).lt c hc
theorem DM.keep (h : DM B X w b2 g fd vd Dc) (hf : Fr Z w u) (hz : ∀ c, Z c → X c ∨ (c < B ∧ c ≠ b2)) (hx : ∀ c, X' c → X c ∨ w.heap.size ≤ c) (hl : ∀ c, X' c → c < u.heap.size) : DM B X' u b2 g fd vd Dc :=
  ⟨h.me.same (hf.block b2 h.me.lt fun hc => (hz _ hc).elim h.xb fun h => h.2 rfl), h.lk, h.ky, fun d => own_same (h.ow d) fun c hc => hf.block c (h.blk hc).2 fun hz' => (hz c hz').elim (h.xx d c hc) fun h2 => by have := (h.blk hc).1; omega, h.pw, fun d c hc hx' => by
    rcases hx c hx' with h1 | h1
    · exact h.xx d c hc h1
    · have := (h.blk hc).2; omega, hl, fun hx' => by
    rcases hx _ hx' with h1 | h1
    · exact h.xb h1
    · have := h.me.lt; omega, h.lt⟩
theorem DM.app (h : DM B X w b2 g fd vd Dc) {d y : Tx} (hd : hasM g d = true) {v' : Value} {n c0 : Nat} (h0 : Below w.heap.size w u0) (ho : u1.ownsRow B 9 1 v' n (strs (Dc d ++ [y]))) (hn : n = (Dc d).length + 1) (hg : u0.grownBy u1 (vd d).ownBlock) (hv : v'.ownBlock = (vd d).ownBlock ∨ v'.ownBlock = some c0) (hc : w.heap.size ≤ c0)
    (hm : ME u2 b2 (fun x => if x = d then some v' else fd x)) (hg2 : u1.grownBy u2 (some b2)) :
    DM B X u2 b2 g (fun x => if x = d then some v' else fd x) (fun x => if x = d then v' else vd x) (fun x => if x = d then Dc d ++ [y] else Dc x) := by
  subst hn
  have hs : w.heap.size ≤ u2.heap.size := Nat.le_trans h0.size (Nat.le_trans hg.size hg2.size)
  have hv2 : ∀ c, v'.ownBlock = some c → (vd d).ownBlock = some c ∨ c = c0 := fun c e => by
    rcases hv with h1 | h1
    · exact Or.inl (h1 ▸ e)
    · rw [h1] at e; exact Or.inr (Option.some.inj e).symm
  refine ⟨hm, fun e => ?_, fun e he => ?_, fun e => ?_, fun e f hne c hc1 hc2 => ?_, fun e c hc1 hx => ?_, fun c hx => Nat.lt_of_lt_of_le (h.xl c hx) hs, h.xb, h.lt⟩
  · by_cases e1 : e = d
    · simp only [if_pos e1, Option.getD_some]
    · simp only [if_neg e1]; exact h.lk e
  · by_cases e1 : e = d
    · rw [e1]; exact hd
    · simp only [if_neg e1] at he; exact h.ky e he
  · by_cases e1 : e = d
    · simp only [if_pos e1]
      rw [List.length_append, List.length_singleton]
      refine own_same ho fun c hc1 => hg2.block c (ho.lt c hc1).2 (fun e2 => ?_)
      have := (ho.lt c hc1).1
      have := Option.some.inj e2
      have := h.lt
      omega
    · simp only [if_neg e1]
      refine own_same (h.ow e) fun c hc1 => ?_
      have hb := h.blk hc1
      have hlt := h.lt
      rw [hg2.block c (by have := h0.size; have := hg.size; omega) (fun e2 => by have := Option.some.inj e2; omega), hg.block c (by have := h0.size; omega) (fun e2 => h.pw e d e1 c hc1 e2.symm), h0.block c hb.2]
  · by_cases e1 : e = d
    · by_cases f1 : f = d
      · exact hne (e1.trans f1.symm)
      · simp only [if_pos e1] at hc1
        simp only [if_neg f1] at hc2
        rcases hv2 c hc1 with h1 | h1
        · exact h.pw f d f1 c hc2 h1
        · have := (h.blk hc2).2; omega
    · simp only [if_neg e1] at hc1
      by_cases f1 : f = d
      · simp only [if_pos f1] at hc2
        rcases hv2 c hc2 with h1 | h1
        · exact h.pw e d e1 c hc1 h1
        · have := (h.blk hc1).2; omega
      · simp only [if_neg f1] at hc2
        exact h.pw e f hne c hc1 hc2
  · by_cases e1 : e = d
    · simp only [if_pos e1] at hc1
      rcases hv2 c hc1 with h1 | h1
      · exact h.xx d c h1 hx
      · have := h.xl c hx; omega
    · simp only [if_neg e1] at hc1
      exact h.xx e c hc1 hx
end
/-- a heap behind a box, told on -/
theorem hp_keep {B p : Nat} {v : Value} {ss : List Tx} {w u : World} (h : Hp B w p v ss) (hp : u.heap[p]? = w.heap[p]?) (hv : ∀ c, v.ownBlock = some c → u.heap[c]? = w.heap[c]?) : Hp B u p v ss :=
  ⟨⟨h.1.lt, h.1.bx.as hp, own_same h.1.ow hv⟩, h.2⟩
theorem hp_fr {B p : Nat} {v : Value} {ss : List Tx} {w u : World} {Z : Nat → Prop} (h : Hp B w p v ss) (hf : Fr Z w u) (hp : ¬ Z p) (hv : ∀ c, v.ownBlock = some c → ¬ Z c) : Hp B u p v ss :=
  hp_keep h (hf.block p h.1.bx.lt hp) fun c hc => hf.block c (h.1.ow.lt c hc).2 (hv c hc)
theorem rng_fr {P : Program} {K : TypeId} {ok : Value → Bool} {u u' : World} {b r cnt : Nat} {f : List UInt8 → Option Value} {left : List UInt8 → Bool} {Z : Nat → Prop} (h : RangeV P K ok u b r f left cnt) (hf : Fr Z u u') (hb : ¬ Z b) (hr : ¬ Z r) : RangeV P K ok u' b r f left cnt := by
  obtain ⟨D, lf, h1, h2, h3⟩ := h
  have hbl := h1.owns.lt
  have hrl := h1.lt
  obtain ⟨es, clock, since, seen, c0, q1, F, q2, q3, q4, rest⟩ := h1
  exact ⟨D, lf, ⟨es, clock, since, seen, c0, (hf.block b hbl hb).trans q1, F, q2, q3, (hf.block r hrl hr).trans q4, rest⟩, h2, h3⟩
theorem me_fr {u u' : World} {b : Nat} {f : List UInt8 → Option Value} {Z : Nat → Prop} (h : ME u b f) (hf : Fr Z u u') (hb : ¬ Z b) : ME u' b f := h.same (hf.block b h.lt hb)
end Go.Proofs.Ytijcojidfallkaa.GO
