/-
  What is told of a module and of its copy with something put to it. Nothing here is a statement of the seed.
-/
import Derived.Test.YtdfafllldanfiaaValLes
import Derived.Test.YtdfafllldanfiaaObjSameM
set_option linter.unusedSimpArgs false
set_option linter.unusedVariables false
namespace Go.Proofs.Ytdfafllldanfiaa.VR
open Go.RowKit WM NR OM OR VM
set_option maxHeartbeats 4000000
set_option maxRecDepth 10000
section
variable {w : World} {ea : Option Addr} {en ec : Nat} {ia : Option Addr} {im ic : Nat} {ca : Option Addr} {cn cc : Nat} {da : Option Addr} {dn dc : Nat} {ra : Option Addr} {rn rc : Nat} {m : Md}
theorem fine_ex {l : List (List UInt8)} (h : FineM m) : FineM { m with exps := l } := ⟨h.code, h.data, h.rels⟩
theorem fine_im {l : List (List UInt8)} (h : FineM m) : FineM { m with imps := l } := ⟨h.code, h.data, h.rels⟩
theorem fine_rl (h : FineM m) {r : Rl} (hr : r ∈ m.rels) : FineM { m with rels := m.rels ++ [r] } := ⟨h.code, h.data, fun y hy => by
  have hy : y ∈ m.rels ++ [r] := hy
  rw [List.mem_append, List.mem_singleton] at hy
  rcases hy with hy | rfl
  · exact h.rels y hy
  · exact h.rels y hr⟩
theorem ne_ex {l : List UInt8} : decide (({ m with exps := m.exps ++ [l] } : Md) = m) = false := decide_eq_false fun e => by
  have := congrArg (fun k : Md => k.exps.length) e
  simp at this
theorem ne_im {l : List UInt8} : decide (({ m with imps := m.imps ++ [l] } : Md) = m) = false := decide_eq_false fun e => by
  have := congrArg (fun k : Md => k.imps.length) e
  simp at this
theorem ne_rl {r : Rl} : decide (({ m with rels := m.rels ++ [r] } : Md) = m) = false := decide_eq_false fun e => by
  have := congrArg (fun k : Md => k.rels.length) e
  simp at this
theorem chkV_bad {m : Md} (h : (vld m).1 ≠ 0) : chkV m = 20 := by
  unfold chkV
  rw [if_neg h]
/-- what three calls tell of a module with m's name -/
structure Told (w : World) (x : ByteArray) (ea : Option Addr) (en ec : Nat) (ia : Option Addr) (im ic : Nat) (ca : Option Addr) (cn cc : Nat) (da : Option Addr) (dn dc : Nat) (ra : Option Addr) (rn rc : Nat) (k : Md) (V1 V2 q : Int) (s : Bool) : Prop where
  mo : ∀ (u : World) (ea2 : Option Addr) (en2 ec2 : Nat) (ia2 : Option Addr) (im2 ic2 : Nat) (ca2 : Option Addr) (cn2 cc2 : Nat) (da2 : Option Addr) (dn2 dc2 : Nat) (ra2 : Option Addr) (rn2 rc2 : Nat), RdM (· < u.heap.size) u ea2 en2 ec2 ia2 im2 ic2 ca2 cn2 cc2 da2 dn2 dc2 ra2 rn2 rc2 k → Calls Try.prog 15 #[mV x ea2 en2 ec2 ia2 im2 ic2 ca2 cn2 cc2 da2 dn2 dc2 ra2 rn2 rc2] u fun e w' => e = .returned (.tuple #[.int .u8 V1, .int .i64 V2]) ∧ Below u.heap.size u w'
  ch : ∀ (u : World) (ea2 : Option Addr) (en2 ec2 : Nat) (ia2 : Option Addr) (im2 ic2 : Nat) (ca2 : Option Addr) (cn2 cc2 : Nat) (da2 : Option Addr) (dn2 dc2 : Nat) (ra2 : Option Addr) (rn2 rc2 : Nat), RdM (· < u.heap.size) u ea2 en2 ec2 ia2 im2 ic2 ca2 cn2 cc2 da2 dn2 dc2 ra2 rn2 rc2 k → Calls Try.prog 12 #[mV x ea2 en2 ec2 ia2 im2 ic2 ca2 cn2 cc2 da2 dn2 dc2 ra2 rn2 rc2] u fun e w' => e = .returned (.int .i64 q) ∧ Below u.heap.size u w'
  sa : ∀ (u : World) (ea2 : Option Addr) (en2 ec2 : Nat) (ia2 : Option Addr) (im2 ic2 : Nat) (ca2 : Option Addr) (cn2 cc2 : Nat) (da2 : Option Addr) (dn2 dc2 : Nat) (ra2 : Option Addr) (rn2 rc2 : Nat), Below w.heap.size w u → RdM (· < u.heap.size) u ea2 en2 ec2 ia2 im2 ic2 ca2 cn2 cc2 da2 dn2 dc2 ra2 rn2 rc2 k → Calls Try.prog 16 #[mV x ea2 en2 ec2 ia2 im2 ic2 ca2 cn2 cc2 da2 dn2 dc2 ra2 rn2 rc2, mV x ea en ec ia im ic ca cn cc da dn dc ra rn rc] u fun e w' => e = .returned (.bool s) ∧ Below u.heap.size u w'
theorem told_of {k : Md} (h : RdM (· < w.heap.size) w ea en ec ia im ic ca cn cc da dn dc ra rn rc m) (hn : k.name = m.name) (hk : FineM k) : Told w (bs m.name) ea en ec ia im ic ca cn cc da dn dc ra rn rc k (vld k).1 (vld k).2 (chkV k) (decide (k = m)) := by
  refine ⟨fun u _ _ _ _ _ _ _ _ _ _ _ _ _ _ _ hR => ?_, fun u _ _ _ _ _ _ _ _ _ _ _ _ _ _ _ hR => ?_, fun u _ _ _ _ _ _ _ _ _ _ _ _ _ _ _ hb hR => ?_⟩
  · have := module_any hR hk
    rw [hn] at this
    exact this
  · have := vcheck_any hR hk
    rw [hn] at this
    exact this
  · have := refSame_any hR (h.go hb hb.size)
    rw [hn] at this
    exact this
end
end Go.Proofs.Ytdfafllldanfiaa.VR
