/-
  The runs of a row, one by one, as package alloc yields them. Nothing here is a statement of the seed.
-/
import Derived.RangeFuncBox
import Derived.RangeFuncLeaves
import Derived.Shelf.Abstract
import Derived.WalkKit
import Derived.OwnWalkIn
import Derived.TacticsInMore
import Derived.LoopNIn
import Derived.LoopIn
import Derived.Maps.AppendAt
import Derived.RangeFuncCalls
import Derived.RangeFuncFrom
import Derived.Test.YtegcekniolajeaaAllocRuns
set_option linter.unusedSimpArgs false
set_option linter.unusedVariables false
namespace Go.Proofs.Ytegcekniolajeaa.AF
open Go.RowKit Go.Shelf AL NR

attribute [local go_sem] Oper.semAt_some

abbrev encP (x : Pr) : Array Value := #[.int .i64 (x.1 : Int), .int .i64 (x.2 : Int)]
/-- what a round keeps: all that lay below n₀, and the block B -/
def KB (n₀ B : Nat) (A C : World) : Prop := Below n₀ A C ∧ C.heap[B]? = A.heap[B]?
theorem KB.refl (n₀ B : Nat) (A : World) : KB n₀ B A A := ⟨Below.refl _ _, rfl⟩
theorem KB.trans {n₀ B : Nat} {A C D : World} (h : KB n₀ B A C) (k : KB n₀ B C D) : KB n₀ B A D := ⟨h.1.trans k.1, k.2.trans h.2⟩
theorem KB.put {n₀ B : Nat} {w : World} (hn : n₀ ≤ w.heap.size) (hB : B < w.heap.size) (W : World) (l : Nat) (o o' : Obj) (hl : w.heap.size ≤ l) (h : W.heap[l]? = some o) (h1 : o.isCells = false) (h2 : o.isWalk = false) : KB n₀ B W (W.putObj l o') :=
  ⟨belowK_b hn W l o o' hl h h1 h2, World.putObj_heap_other (by omega)⟩
/-- the runs that come with the place i, c free ones ahead of it -/
theorem rg_used {l : List Bool} {i c : Nat} (h : i < l.length) (hc : c ≤ i) : l.getD i false = true → rg (i - c) c (l.drop i) = emit (i - c) c ++ rg (i + 1) 0 (l.drop (i + 1)) := by
  intro hb
  rw [List.drop_eq_getElem_cons h]
  have e : l.getD i false = l[i] := by simp [h]
  rw [← e, hb, rg]
  congr 2; omega
theorem rg_free {l : List Bool} {i c : Nat} (h : i < l.length) (hc : c ≤ i) : l.getD i false = false → rg (i - c) c (l.drop i) = rg (i + 1 - (c + 1)) (c + 1) (l.drop (i + 1)) := by
  intro hb
  rw [List.drop_eq_getElem_cons h]
  have e : l.getD i false = l[i] := by simp [h]
  rw [← e, hb, rg]
  congr 1; omega
theorem encP_eq {i c : Nat} (h : c ≤ i) : encP (i - c, c) = #[.int .i64 ((i : Int) - c), .int .i64 ((i : Int) - (i - c))] := by
  have h1 : ((i - c : Nat) : Int) = i - c := by omega
  have h2 : (i : Int) - (i - c) = c := by omega
  simp only [encP, h1, h2]
theorem rg_done (l : List Bool) (f c : Nat) : rg f c (l.drop l.length) = emit f c := by rw [List.drop_length]; rfl
set_option maxRecDepth 100000 in
set_option maxHeartbeats 2000000 in
theorem runs1_in (l0 B n₀ : Nat) (l : List Bool) (hl : l.length ≤ 400) (v : Value) (J Jx : List Pr → World → Prop) (W : World) (hJ : AbidesFrom W.heap.size J) (hJx : AbidesFrom W.heap.size Jx)
    (n : Nat) (hn : 1 ≤ n)
    (hY : ∀ pre x W, J pre W → pre.length < (R l).length → YieldAt Fence.wide (n - 1) Try.prog l0 (encP x) W fun e W' =>
      (e = .returned (.bool true) ∧ J (pre ++ [x]) W' ∧ KB n₀ B W W') ∨ (e = .returned (.bool false) ∧ Jx (pre ++ [x]) W'))
    (hB : W.cell? ⟨B, 0, none⟩ = some v) (hv : Reads (· < n₀) W v (bls l)) (h0 : J [] W) :
    CallsIn Fence.wide n Try.prog 25 #[.func (.yield l0) #[] #[], .pointer (some ⟨B, 0, none⟩)] W fun e W' => (∃ v, e = .returned v) ∧
      ((∃ ys, ys = R l ∧ J ys W') ∨ (∃ pre, pre <+: R l ∧ Jx pre W')) := by
  by_cases hnil : l = []
  · subst hnil
    obtain ⟨a, cap, rfl⟩ := reads_nil hv
    clear hv
    refine callsIn_of_wp Try.func25 rfl trivial ?_ rfl
    simp only [Try.ntmps25, List.size_toArray, List.length_cons, List.length_nil, Nat.reduceAdd, Nat.reduceSub, Array.replicate_succ, Array.replicate_zero, List.push_toArray, List.append_toArray, List.nil_append, List.cons_append]
    gi_wp2
    gi_loopw [3, 8] (fun x y wr => x = .int .i64 0 ∧ y = .int .i64 0 ∧ W = wr) (fun _ _ _ => 0)
    case atStart => exact ⟨rfl, rfl, rfl⟩
    case round =>
      obtain ⟨rfl, rfl, rfl⟩ := hrel
      gi_wp2
      go_end0
      exact ⟨⟨_, rfl⟩, .inl ⟨[], rfl, h0⟩⟩
  · have hne : bls l ≠ [] := by intro e; have := congrArg List.length e; rw [bls_len] at this; simp at this; exact hnil this
    obtain ⟨g, off, cap, rfl, hg, hlc, hcm, hc⟩ := hv.cells hne
    have C := Lib.hid (reads_cell (G := (· < n₀)) hc)
    have HD := Lib.hid (rg_done l)
    have HU := Lib.hid (fun i c (h : i < l.length) (hc : c ≤ i) => rg_used (l := l) h hc)
    have HF := Lib.hid (fun i c (h : i < l.length) (hc : c ≤ i) => rg_free (l := l) h hc)
    have HZ : Hid (R l = [] ++ rg (0 - 0) 0 (l.drop 0)) := Lib.hid rfl
    clear hc hv hne hnil
    rw [bls_len] at *
    generalize l.length = m at *
    have hm3 : (m : Int) ≤ 400 := by omega
    unfold maxLen at hcm
    refine callsIn_of_wp Try.func25 rfl trivial ?_ rfl
    simp only [Try.ntmps25, List.size_toArray, List.length_cons, List.length_nil, Nat.reduceAdd, Nat.reduceSub, Array.replicate_succ, Array.replicate_zero, List.push_toArray, List.append_toArray, List.nil_append, List.cons_append]
    gi_wp2
    gi_loopw [3, 8] (fun x y wr => ∃ (i c : Nat) (pre : List Pr), i ≤ m ∧ c ≤ i ∧ x = .int .i64 ((i - c : Nat) : Int) ∧ y = .int .i64 (i : Int) ∧ Hid (R l = pre ++ rg (i - c) c (l.drop i)) ∧ J pre wr ∧ KB n₀ B W wr) (fun _ y _ => m - (intOf y).toNat)
    case atStart => exact ⟨0, 0, [], by omega, by omega, rfl, rfl, HZ, h0, KB.refl _ _ _⟩
    case round =>
      obtain ⟨i, c, pre, hi, hci, rfl, rfl, hx, hJs, hK⟩ := hrel
      have hBr : wr.cell? ⟨B, 0, none⟩ = some (.slice (some ⟨g, off, none⟩) m cap) := (World.cell?_of_block (a := ⟨B, 0, none⟩) hK.2).trans hB
      have hi0 : (0 : Int) ≤ i := by omega
      have hcc0 : (c : Int) ≤ i := by omega
      by_cases hlt : i < m
      · have hlt' : (i : Int) < m := by omega
        have hcc := (hK.1.cell (p := ⟨g, off + i, none⟩) hg).trans (C.out i hlt)
        have hu := Lib.hid (HU.out i c hlt hci)
        have hf := Lib.hid (HF.out i c hlt hci)
        generalize l.getD i false = b at *
        cases b
        · have e : Hid (R l = pre ++ rg (i + 1 - (c + 1)) (c + 1) (l.drop (i + 1))) := Lib.hid (by rw [hx.out, hf.out rfl])
          clear hu hf
          gi_wp2
          go_roundw
          case rel => exact ⟨i + 1, c + 1, pre, by omega, by omega, by go_num, by go_num, e, hJs, hK⟩
          case measure => simp [intOf]; omega
        · by_cases hc0 : c = 0
          · subst hc0
            have e : Hid (R l = pre ++ rg (i + 1 - 0) 0 (l.drop (i + 1))) := Lib.hid (by rw [hx.out, hu.out rfl]; rfl)
            clear hu hf
            gi_wp2
            refine ⟨fun f hf => (by cases hf), ?_⟩
            gi_wp2
            go_roundw
            case rel => exact ⟨i + 1, 0, pre, by omega, by omega, by go_num, by go_num, e, hJs, hK⟩
            case measure => (simp [intOf]; try omega)
          · have e : Hid (R l = (pre ++ [(i - c, c)]) ++ rg (i + 1 - 0) 0 (l.drop (i + 1))) := Lib.hid (by rw [hx.out, hu.out rfl]; unfold emit; rw [if_neg hc0]; simp)
            have hlen : pre.length < (R l).length := by rw [e.out]; simp
            have HY := Lib.hid (hY pre (i - c, c) wr hJs hlen)
            have hpre : Hid (pre ++ [(i - c, c)] <+: R l) := Lib.hid ⟨_, e.out.symm⟩
            clear hu hf hlen hx
            have hq : ((i - c : Nat) : Int) = i - c := by omega
            have hc1 : (1 : Int) ≤ c := by omega
            rw [encP_eq hci] at HY
            obtain ⟨fn, tmps, assign, body, hy, hR⟩ := HY.out
            have HR := Lib.hid hR
            clear hR HY
            gi_wp2
            refine HR.out.mono ?_
            rintro e3 W3 (⟨rfl, hJ3, hk3⟩ | ⟨rfl, hJx3⟩)
            · gi_wp2
              go_roundw
              case rel => exact ⟨i + 1, 0, pre ++ [(i - c, c)], by omega, by omega, by go_num, by go_num, e, hJ3, hK.trans hk3⟩
              case measure => simp [intOf]; omega
            · gi_wp2
              refine bodyPost_ret (results_none rfl _ _ _) rfl ?_
              exact ⟨⟨_, rfl⟩, .inr ⟨_, hpre.out, hJx3⟩⟩
      · obtain rfl : i = m := by omega
        by_cases hc0 : c = 0
        · subst hc0
          have e : Hid (R l = pre) := Lib.hid (by rw [hx.out, HD.out]; simp [emit])
          clear hx
          gi_wp2
          go_end0
          exact ⟨⟨_, rfl⟩, .inl ⟨pre, e.out.symm, hJs⟩⟩
        · have e : Hid (R l = pre ++ [(i - c, c)]) := Lib.hid (by rw [hx.out, HD.out]; unfold emit; rw [if_neg hc0])
          have hlen : pre.length < (R l).length := by rw [e.out]; simp
          have HY := Lib.hid (hY pre (i - c, c) wr hJs hlen)
          clear hlen hx
          have hq : ((i - c : Nat) : Int) = i - c := by omega
          have hc1 : (1 : Int) ≤ c := by omega
          rw [encP_eq hci] at HY
          obtain ⟨fn, tmps, assign, body, hy, hR⟩ := HY.out
          have HR := Lib.hid hR
          clear hR HY
          gi_wp2
          refine HR.out.mono ?_
          rintro e3 W3 (⟨rfl, hJ3, hk3⟩ | ⟨rfl, hJx3⟩)
          · gi_wp2
            go_end0
            exact ⟨⟨_, rfl⟩, .inl ⟨_, e.out.symm, hJ3⟩⟩
          · gi_wp2
            go_end0
            exact ⟨⟨_, rfl⟩, .inr ⟨_, by rw [e.out]; exact List.prefix_refl _, hJx3⟩⟩
theorem runs_any (a : Option Addr) (n c : Nat) (w : World) : Calls Try.prog 21 #[.slice a n c] w fun e w' => e = .returned (.func (.func 25) #[] #[.pointer (some ⟨w.heap.size, 0, none⟩)]) ∧ w' = w.alloc (.cells #[.slice a n c] 22) := by
  go_enter Try.func21, Try.ntmps21
  go_wp2_with fail
  go_ret
  exact ⟨rfl, rfl⟩
theorem runs_stops (n : Nat) (hn : 1 ≤ n) (B n₀ : Nat) (l : List Bool) (hl : l.length ≤ 400) (v : Value) (w : World) (hB : B < w.heap.size) (hn0 : n₀ ≤ w.heap.size) (hc : w.cell? ⟨B, 0, none⟩ = some v) (hv : Reads (· < n₀) w v (bls l)) :
    SeqStopsK Fence.wide n Try.prog 25 #[.pointer (some ⟨B, 0, none⟩)] encP (KB n₀ B) (fun ys => ys = R l) (fun ps => ps <+: R l) (R l).length w := fun l0 J Jx W hW hJ hJx hY h0 =>
  runs1_in l0 B n₀ l hl v J Jx W hJ hJx n hn hY ((hW.cell (p := ⟨B, 0, none⟩) hB).trans hc) (hv.below (hW.mono hn0)) h0
end Go.Proofs.Ytegcekniolajeaa.AF
