/-
  Harts as numbers: what a step makes of one. Plain mathematics; nothing here is a statement of the seed.
-/
import Derived.Test.YtihcellcdkhadaaGreatMemA
set_option linter.unusedSimpArgs false
set_option linter.unusedVariables false
namespace Go.Proofs.YtihcellcdkhadaaGreat.HM
open Go.RowKit PM MM IM

structure Ht where
  pc : Int
  r : Nat → Int
  sk : List Int
  why : Int
  ep : Int
  home : Int
/-- what a step leaves: the hart, the memory, the note -/
structure Res where
  h : Ht
  m : Mm
  sf : Bool
  st : Bool
  nt : Int
  nx : Int
def B32 (x : Int) : Prop := 0 ≤ x ∧ x ≤ 4294967295
structure HOk (h : Ht) : Prop where
  pc : B32 h.pc
  r : ∀ k, B32 (h.r k)
  sk : ∀ x ∈ h.sk, B32 x
  home : B32 h.home
structure WOk (M : Mm) : Prop where
  gt : ∀ k, B32 (M.gt k)
  ws : ∀ x ∈ M.ws, B32 x
def getR (R : Nat → Int) (i : Int) : Int := if i = 0 then 0 else R i.toNat
def putR (R : Nat → Int) (i x : Int) : Nat → Int := if i = 0 then R else setG R i.toNat x
def up (pc : Int) : Int := (pc + 1) % 4294967296
def stillR (h : Ht) (M : Mm) (y : Int) : Res := ⟨⟨h.pc, h.r, h.sk, y, h.ep, h.home⟩, M, false, false, 0, 0⟩
def turnR (h : Ht) (M : Mm) (to : Int) : Res := ⟨⟨to, h.r, h.sk, h.why, h.ep, h.home⟩, M, false, false, 0, 0⟩
def setR (h : Ht) (M : Mm) (i x : Int) : Res := ⟨⟨up h.pc, putR h.r i x, h.sk, h.why, h.ep, h.home⟩, M, false, false, 0, 0⟩
def passR (h : Ht) (M : Mm) (ep y : Int) : Res := if 0 < h.sk.length then stillR h M y else ⟨⟨h.home, h.r, h.sk, h.why, ep, h.home⟩, M, true, false, 0, 0⟩
def loadR (h : Ht) (M : Mm) (d t : Int) : Res := if loadB M t h.ep then setR h M d (loadW M t h.ep) else stillR h M 4
def storeR (h : Ht) (M : Mm) (own t x : Int) : Res := if stoB M t h.ep own then ⟨⟨up h.pc, h.r, h.sk, h.why, h.ep, h.home⟩, stoM M t x h.ep own, false, true, t, x⟩ else stillR h M 5
def callR (h : Ht) (M : Mm) (to : Int) : Res := if 16 ≤ h.sk.length then stillR h M 6 else ⟨⟨to, h.r, h.sk ++ [up h.pc], h.why, h.ep, h.home⟩, M, false, false, 0, 0⟩
def backR (h : Ht) (M : Mm) : Res := ⟨⟨h.sk.getD (h.sk.length - 1) 0, h.r, h.sk.take (h.sk.length - 1), h.why, h.ep, h.home⟩, M, false, false, 0, 0⟩
def enterR (h : Ht) (M : Mm) (m ep : Int) : Res := if gate M (m / 8) = 0 then passR h M ep 2 else turnR h M ((gate M (m / 8) + m % 8) % 4294967296)
def reck (o a b : Int) : Int :=
  if o = 3 then (a + b) % 4294967296 else if o = 4 then (a - b) % 4294967296 else if o = 5 then bits .and .u32 a b else if o = 6 then bits .or .u32 a b else if o = 7 then bits .xor .u32 a b
  else if o = 8 then (a * 2 ^ (b % 32).toNat) % 4294967296 else if o = 9 then a / 2 ^ (b % 32).toNat else if wrap32 a < wrap32 b then 1 else 0
def imm (m : Int) : Int := m % 4294967296
def addr (h : Ht) (a m : Int) : Int := (getR h.r a + imm m) % 4294967296
/-- where a jump goes -/
def goX (pc o m : Int) : Int := if o = 17 then m % 4294967296 else (pc + 1 + m) % 4294967296
def doR (h : Ht) (M : Mm) (own ep o d a b m : Int) : Res :=
  if o = 0 then stillR h M 1
  else if o = 1 then turnR h M (up h.pc)
  else if o = 2 then setR h M d (imm m)
  else if o ≤ 10 then setR h M d (reck o (getR h.r a) (getR h.r b))
  else if o = 11 then setR h M d (addr h a m)
  else if o = 12 then loadR h M d (addr h a m)
  else if o = 13 then storeR h M own (addr h a m) (getR h.r d)
  else if o = 14 then turnR h M (goX h.pc 14 m)
  else if o = 15 then turnR h M (if getR h.r d = getR h.r a then goX h.pc 15 m else up h.pc)
  else if o = 16 then turnR h M (if getR h.r d = getR h.r a then up h.pc else goX h.pc 16 m)
  else if o = 17 then callR h M (imm m)
  else if o = 18 then if 0 < h.sk.length then backR h M else passR h M ep 6
  else if o = 19 then turnR h M (getR h.r a)
  else if o = 20 then passR h M ep 6
  else enterR h M m ep
def stepR (h : Ht) (M : Mm) (ep : Int) : Res :=
  if h.why = 0 then
    if fetchB M h.pc h.ep then
      if hasB (fetchW M h.pc h.ep) then doR h M (fetchO M h.pc h.ep) ep (pO (fetchW M h.pc h.ep)) (pD (fetchW M h.pc h.ep)) (pA (fetchW M h.pc h.ep)) (pB (fetchW M h.pc h.ep)) (pM (fetchW M h.pc h.ep))
      else stillR h M 3
    else stillR h M 2
  else ⟨h, M, false, false, 0, 0⟩
/-! what stays -/
theorem b32_mod (x : Int) : B32 (x % 4294967296) := by unfold B32; omega
theorem b32_zero : B32 0 := by unfold B32; omega
theorem getR_ok {h : Ht} (ok : HOk h) (i : Int) : B32 (getR h.r i) := by unfold getR; split; exact b32_zero; exact ok.r _
theorem putR_ok {R : Nat → Int} (ok : ∀ k, B32 (R k)) (i : Int) {x : Int} (hx : B32 x) : ∀ k, B32 (putR R i x k) := by
  intro k
  unfold putR
  split
  · exact ok k
  · unfold setG; split; exact hx; exact ok k
theorem b32_bits (op : BinOp) (h : op = .and ∨ op = .or ∨ op = .xor) {a b : Int} (ha : B32 a) (hb : B32 b) : B32 (bits op .u32 a b) := by
  unfold B32 at *
  have p : (4294967296 : Nat) = 2 ^ 32 := by decide
  rcases h with rfl | rfl | rfl
  · rw [u32_and _ _ ha.1 (by omega) hb.1 (by omega)]
    have := Nat.and_lt_two_pow (n := 32) a.toNat (show b.toNat < 2 ^ 32 by omega)
    omega
  · rw [u32_or _ _ ha.1 (by omega) hb.1 (by omega)]
    have := Nat.or_lt_two_pow (n := 32) (show a.toNat < 2 ^ 32 by omega) (show b.toNat < 2 ^ 32 by omega)
    omega
  · rw [u32_xor _ _ ha.1 (by omega) hb.1 (by omega)]
    have := Nat.xor_lt_two_pow (n := 32) (show a.toNat < 2 ^ 32 by omega) (show b.toNat < 2 ^ 32 by omega)
    omega
theorem b32_shr {a : Int} (n : Nat) (ha : B32 a) : B32 (a / 2 ^ n) := by
  unfold B32 at *
  have hp : (0 : Int) < 2 ^ n := Int.pow_pos (by omega)
  constructor
  · exact Int.ediv_nonneg ha.1 (Int.le_of_lt hp)
  · exact Int.le_trans (Int.ediv_le_self _ ha.1) ha.2
theorem reck_ok (o : Int) {a b : Int} (ha : B32 a) (hb : B32 b) : B32 (reck o a b) := by
  unfold reck
  repeat' split
  all_goals first | exact b32_mod _ | exact b32_bits _ (by simp) ha hb | exact b32_shr _ ha | (unfold B32; omega)
end Go.Proofs.YtihcellcdkhadaaGreat.HM
