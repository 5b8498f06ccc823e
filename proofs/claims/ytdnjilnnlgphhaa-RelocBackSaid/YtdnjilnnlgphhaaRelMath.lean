/-
  Plain facts on addresses in words, as numbers. Nothing of the program is used.
-/
import Derived.Test.YtdnjilnnlgphhaaIsaMath
set_option linter.unusedSimpArgs false
set_option linter.unusedVariables false
namespace Go.Proofs.Ytdnjilnnlgphhaa.RM
open WM IM

/-- a kind that stands for an import's slot -/
def imp (k : Int) : Bool := decide (k = 0 ∨ k = 1 ∨ k = 4)
/-- a kind whose word is the address itself -/
def whole (k : Int) : Bool := decide (k = 4 ∨ k = 5 ∨ k = 6)
/-- a kind of code's words -/
def inC (k : Int) : Bool := decide (k = 0 ∨ k = 1 ∨ k = 2 ∨ k = 3 ∨ k = 7)
/-- the operation of a kind's words -/
def opK (k : Int) : Int := if k = 0 ∨ k = 7 then 17 else 2
/-- which register the instruction without an address has -/
def dK (k d : Int) : Int := if k = 0 ∨ k = 7 then 0 else d
def rch (k : Int) : Int := if 7 < k then 0 else if inC k then 1048575 else 4294967295
/-- a word of the kind, whatever address it has -/
def opB (x k : Int) : Bool := hasB x && decide (pO x = opK k)
/-- a relocation's address -/
def valA (k i c d : Int) (l : List Nat) : Int := if 7 < k then 0 else if imp k then (l.getD i.toNat 0 : Nat) else if k = 2 ∨ k = 5 then (d + i) % 4294967296 else (c + i) % 4294967296
def valE (k i : Int) (l : List Nat) : Int := if 7 < k ∨ imp k ∧ (l.length : Int) ≤ i then 2 else 0
/-- a word with an address -/
def putW (x k v : Int) : Int := enc (opK k) (pD x) 0 0 v
def apE (x k v : Int) : Int := if 7 < k then 2 else if inC k = false then 0 else if (opB x k && decide (pM x = 0)) = false then 10 else if 1048575 < v then 30 else 0
def apW (x k v : Int) : Int := if apE x k v = 0 then if inC k then putW x k v else v else 0
def unE (x k : Int) : Int := if 7 < k then 2 else if inC k = false then 0 else if (opB x k && decide (0 ≤ pM x)) = false then 10 else 0
def unW (x k : Int) : Int := if unE x k = 0 then if inC k then putW x k 0 else 0 else 0

theorem opK_cases (k : Int) : opK k = 17 ∨ opK k = 2 := by unfold opK; split <;> simp
theorem whole_inC {k : Int} (h : 0 ≤ k ∧ k ≤ 7) : whole k = !inC k := by
  unfold whole inC
  rw [Bool.eq_iff_iff]
  simp
  omega
/-- a word of the kind: what its parts are -/
theorem of_op {x k : Int} (hx : 0 ≤ x ∧ x ≤ 4294967295) (h : opB x k = true) : pO x = opK k ∧ pD x = dK k (pD x) ∧ pA x = 0 ∧ pB x = 0 ∧ (0 ≤ pD x ∧ pD x ≤ 7) ∧ InsOk (pO x) (pD x) (pA x) (pB x) (pM x) ∧ enc (pO x) (pD x) (pA x) (pB x) (pM x) = x := by
  unfold opB at h
  rw [Bool.and_eq_true, decide_eq_true_eq] at h
  obtain ⟨h1, h2⟩ := h
  obtain ⟨g1, g2⟩ := has_good hx h1
  have g := g1
  unfold InsOk at g
  unfold dK
  unfold opK at h2 ⊢
  refine ⟨h2, ?_, ?_, ?_, ?_, g1, g2⟩
  · split at h2 <;> split <;> omega
  · split at h2 <;> omega
  · split at h2 <;> omega
  · omega
/-- the word with an address may be -/
theorem put_ok {x k v : Int} (hx : 0 ≤ x ∧ x ≤ 4294967295) (h : opB x k = true) (hv : 0 ≤ v ∧ v ≤ 1048575) : InsOk (opK k) (pD x) 0 0 v := by
  obtain ⟨h1, h2, h3, h4, h5, h6, h7⟩ := of_op hx h
  rw [h1, h3, h4] at h6
  unfold InsOk at h6 ⊢
  rcases opK_cases k with e | e <;> rw [e] at h6 ⊢ <;> omega
theorem put_bd {x k v : Int} (hx : 0 ≤ x ∧ x ≤ 4294967295) (h : opB x k = true) (hv : 0 ≤ v ∧ v ≤ 1048575) : 0 ≤ putW x k v ∧ putW x k v ≤ 4294967295 := enc_bd (put_ok hx h hv)
/-- the parts of the word with an address -/
theorem put_parts {x k v : Int} (hx : 0 ≤ x ∧ x ≤ 4294967295) (h : opB x k = true) (hv : 0 ≤ v ∧ v ≤ 1048575) :
    hasB (putW x k v) = true ∧ pO (putW x k v) = opK k ∧ pD (putW x k v) = pD x ∧ pA (putW x k v) = 0 ∧ pB (putW x k v) = 0 ∧ pM (putW x k v) = v := by
  have g := put_ok hx h hv
  obtain ⟨e1, e2, e3, e4, e5⟩ := parts_enc g
  exact ⟨has_enc g, e1, e2, e3, e4, e5⟩
theorem put_op {x k v : Int} (hx : 0 ≤ x ∧ x ≤ 4294967295) (h : opB x k = true) (hv : 0 ≤ v ∧ v ≤ 1048575) : opB (putW x k v) k = true := by
  obtain ⟨e1, e2, _⟩ := put_parts hx h hv
  unfold opB
  rw [e1, e2]
  simp
/-- what has no address stands again -/
theorem put_zero {x k : Int} (hx : 0 ≤ x ∧ x ≤ 4294967295) (h : opB x k = true) (hm : pM x = 0) : putW x k 0 = x := by
  obtain ⟨h1, h2, h3, h4, h5, h6, h7⟩ := of_op hx h
  rw [h1, h3, h4, hm] at h7
  exact h7
theorem put_put {x k v : Int} (hx : 0 ≤ x ∧ x ≤ 4294967295) (h : opB x k = true) (hv : 0 ≤ v ∧ v ≤ 1048575) (u : Int) : putW (putW x k v) k u = putW x k u := by
  obtain ⟨e1, e2, e3, _⟩ := put_parts hx h hv
  unfold putW at *
  rw [e3]
end Go.Proofs.Ytdnjilnnlgphhaa.RM
