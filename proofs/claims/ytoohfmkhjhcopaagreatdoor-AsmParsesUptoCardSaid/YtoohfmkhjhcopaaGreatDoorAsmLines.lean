/-
  The lines of a text, one by one, as package asm tells them. Nothing here is a statement of the seed.
-/
import Derived.RangeFuncBox
import Derived.RangeFuncLeaves
import Derived.Shelf.Abstract
import Derived.WalkKit
import Derived.OwnWalkIn
import Derived.TacticsInMore
import Derived.LoopNIn
import Derived.LoopIn
import Derived.Maps.AppendAt
import Derived.RangeFuncCalls
import Derived.RangeFuncFrom
import Derived.Test.YtoohfmkhjhcopaaGreatDoorAsmMath3
import Derived.Test.YtoohfmkhjhcopaaGreatDoorAsmRow
set_option linter.unusedSimpArgs false
set_option linter.unusedVariables false
namespace Go.Proofs.YtoohfmkhjhcopaaGreatDoor.AF
open Go.RowKit Go.Shelf WM IM WF IF AM

attribute [local go_sem] Oper.semAt_some

theorem trim_bs (l : List UInt8) (w : World) (hl : l.length ≤ 9223372036854775807) :
    Calls Tryz.prog 54 #[.string (bs l), .string ⟨#[32]⟩] w fun e w' => e = .returned (.string (bs (Lib.trimB l 32))) ∧ ∃ n, w' = w.drewN n :=
  (Tryz.strings_Trim_one (bs l) 32 (by decide) w (by rw [bs_size]; exact hl)).mono fun e w' ⟨he, hw⟩ => ⟨he, by
    rcases hw with rfl | rfl
    · exact ⟨0, rfl⟩
    · exact ⟨1, rfl⟩⟩
abbrev encL (x : Ln) : Array Value := #[.int .i64 (x.1 : Nat), .string (bs x.2.1)]
theorem abides_drew {β : Type} {B : Nat} {J : β → World → Prop} (h : AbidesFrom B J) {s : β} {W : World} (n : Nat) (hs : J s W) : J s (W.drewN n) :=
  h s W _ none hs ⟨rfl, rfl, rfl, Nat.le_refl _, fun _ _ _ => rfl⟩ (fun r e => by cases e)
def moreLen (a b : Value) : Nat := match a, b with
  | .string s, .bool true => s.size + 1
  | _, _ => 0
set_option maxRecDepth 100000 in
set_option maxHeartbeats 1000000 in
theorem lines1_in (l0 B n₀ : Nat) (T : List UInt8) (hT : T.length ≤ 140737488355328) (J Jx : List Ln → World → Prop) (W : World) (hJ : AbidesFrom W.heap.size J) (hJx : AbidesFrom W.heap.size Jx)
    (n : Nat) (hn : 1 ≤ n)
    (hY : ∀ pre x W, J pre W → pre.length < (lnsA 0 T).length → YieldAt Fence.wide (n - 1) Tryz.prog l0 (encL x) W fun e W' =>
      (e = .returned (.bool true) ∧ J (pre ++ [x]) W' ∧ Below n₀ W W') ∨ (e = .returned (.bool false) ∧ Jx (pre ++ [x]) W'))
    (hB : W.cell? ⟨B, 0, none⟩ = some (.string (bs T))) (h0 : J [] W) :
    CallsIn Fence.wide n Tryz.prog 53 #[.func (.yield l0) #[] #[], .pointer (some ⟨B, 0, none⟩)] W fun e W' => (∃ v, e = .returned v) ∧
      ((∃ ys, ys = lnsA 0 T ∧ J ys W') ∨ (∃ pre, pre <+: lnsA 0 T ∧ Jx pre W')) := by
  refine callsIn_of_wp Tryz.func53 rfl trivial ?_ rfl
  simp only [Tryz.ntmps53, List.size_toArray, List.length_cons, List.length_nil, Nat.reduceAdd, Nat.reduceSub, Array.replicate_succ, Array.replicate_zero, List.push_toArray, List.append_toArray, List.nil_append, List.cons_append]
  gi_wp2
  gi_loopw [3, 4, 5, 6] (fun a b c _ wr => ∃ (pre : List Ln) (l : List UInt8) (m : Bool) (k : Nat), a = .string (bs l) ∧ b = .bool m ∧ c = .int .i64 (k : Nat) ∧ Hid (lnsA 0 T = pre ++ (if m then lnsA k l else [])) ∧ J pre wr ∧ Hid (m = true → k + l.length ≤ T.length))
    (fun a b _ _ _ => moreLen a b)
  case atStart =>
    exact ⟨[], T, true, 0, rfl, rfl, rfl, rfl, h0, fun _ => by omega⟩
  case round =>
    obtain ⟨ps, l, m, k, rfl, rfl, rfl, hx, hJs, hk⟩ := hrel
    cases m with
    | false =>
      gi_wp2
      go_end0
      have e := hx.out
      rw [if_neg (by simp), List.append_nil] at e
      exact ⟨⟨_, rfl⟩, .inl ⟨ps, e.symm, hJs⟩⟩
    | true =>
      have kk := hk.out rfl
      have hi : (k : Int) ≤ 140737488355329 := by omega
      have hi0 : (0 : Int) ≤ (k : Int) := by omega
      have hl : l.length ≤ 140737488355329 := by omega
      have e := hx.out
      rw [if_pos rfl] at e
      have C0 := fun w => cut_bs l 10 w (by omega)
      have hp := pre_len 10 l
      have C1 := fun w => trim_bs (pre 10 l) w (by omega)
      have ht := trim_len (pre 10 l) 32
      have hlen : ps.length < (lnsA 0 T).length := by
        rw [e]
        by_cases h : (10 : UInt8) ∈ l
        · rw [lnsA_yes h]; simp
        · rw [lnsA_no h]; simp
      have HY : Hid (∀ w, J ps w → YieldAt Fence.wide (n - 1) Tryz.prog l0 #[.int .i64 (k : Nat), .string (bs (Lib.trimB (pre 10 l) 32))] w fun e W' =>
          (e = .returned (.bool true) ∧ J (ps ++ [mkL (k, Lib.trimB (pre 10 l) 32)]) W' ∧ Below n₀ w W') ∨ (e = .returned (.bool false) ∧ Jx (ps ++ [mkL (k, Lib.trimB (pre 10 l) 32)]) W')) := fun w hw => by
        have := hY ps (mkL (k, Lib.trimB (pre 10 l) 32)) w hw hlen
        rw [encL, mkL_1, mkL_2 _ (by show (Lib.trimB (pre 10 l) 32).length ≤ _; omega)] at this
        exact this
      have hz : (bs (post 10 l)).size = (post 10 l).length := bs_size _
      have hz2 : (bs l).size = l.length := bs_size _
      have hend : ∀ b : Bool, decide ((10 : UInt8) ∈ l) = b → Hid (lnsA 0 T = (ps ++ [mkL (k, Lib.trimB (pre 10 l) 32)]) ++ (if b then lnsA (k + 1) (post 10 l) else [])) ∧ Hid (b = true → k + 1 + (post 10 l).length ≤ T.length) ∧ (b = true → (post 10 l).length < l.length) ∧ lnsA 0 T = ps ++ lnsA k l := by
        intro b hb
        subst hb
        by_cases h : (10 : UInt8) ∈ l
        · rw [decide_eq_true h, if_pos rfl]
          have := post_lt h
          refine ⟨by show _ = _; rw [e, lnsA_yes h]; simp, (fun _ => by omega), fun _ => this, e⟩
        · rw [decide_eq_false h]
          refine ⟨by show _ = _; rw [e, lnsA_no h, (pre_none h).1]; simp, (fun h => by cases h), (fun h => by cases h), e⟩
      have hpre : Hid (ps ++ [mkL (k, Lib.trimB (pre 10 l) 32)] <+: lnsA 0 T) := by
        obtain ⟨h1, _⟩ := hend _ rfl
        exact ⟨_, h1.out.symm⟩
      generalize decide ((10 : UInt8) ∈ l) = b at *
      obtain ⟨he, hk2, hlt, _⟩ := hend b rfl
      have hm : moreLen (.string (bs (post 10 l))) (.bool b) < moreLen (.string (bs l)) (.bool true) := by
        cases b with
        | true => show (bs (post 10 l)).size + 1 < (bs l).size + 1; have := hlt rfl; omega
        | false => show 0 < (bs l).size + 1; omega
      have Hm := Lib.hid hm
      clear hend hlt e hx ht hp hlen hz hz2 hm kk hl hY
      generalize bs (Lib.trimB (pre 10 l) 32) = X at *
      generalize bs (pre 10 l) = A at *
      generalize hq : bs (post 10 l) = Q at *
      generalize hL : bs l = L at *
      gi_wp2_with (first | (refine ⟨trivial, ?_⟩; gi_at_call 42; refine (callsIn_wide.2 (C0 _)).mono ?_; rintro e w' ⟨rfl, n1, rfl⟩) | (refine ⟨trivial, ?_⟩; gi_at_call 54; refine (callsIn_wide.2 (C1 _)).mono ?_; rintro e w' ⟨rfl, n2, rfl⟩; obtain ⟨fn, tmps, assign, body, hy, hR⟩ := HY.out (wr.drewN (n1 + n2)) (abides_drew hJ (n1 + n2) hJs)))
      refine hR.mono ?_
      rintro e W3 (⟨rfl, hJ3, hk3⟩ | ⟨rfl, hJx3⟩)
      · gi_wp2
        go_roundw
        case rel => exact ⟨ps ++ [mkL (k, Lib.trimB (pre 10 l) 32)], post 10 l, b, k + 1, by rw [hq], rfl, by go_num, he, hJ3, hk2⟩
        case measure => exact Hm.out
      · gi_wp2
        refine bodyPost_ret (results_none rfl _ _ _) rfl ?_
        exact ⟨⟨_, rfl⟩, .inr ⟨_, hpre.out, hJx3⟩⟩
theorem lines_any (S : ByteArray) (w : World) : Calls Tryz.prog 34 #[.string S] w fun e w' => e = .returned (.func (.func 53) #[] #[.pointer (some ⟨w.heap.size, 0, none⟩)]) ∧ w' = w.alloc (.cells #[.string S] 9) := by
  go_enter Tryz.func34, Tryz.ntmps34
  go_wp2_with fail
  go_ret
  exact ⟨rfl, rfl⟩
theorem lines_stops (n : Nat) (hn : 1 ≤ n) (B n₀ : Nat) (T : List UInt8) (hT : T.length ≤ 140737488355328) (w : World) (hB : B < w.heap.size) (hc : w.cell? ⟨B, 0, none⟩ = some (.string (bs T))) :
    SeqStopsK Fence.wide n Tryz.prog 53 #[.pointer (some ⟨B, 0, none⟩)] encL (Below n₀) (fun ys => ys = lnsA 0 T) (fun ps => ps <+: lnsA 0 T) (lnsA 0 T).length w := fun l J Jx W hW hJ hJx hY h0 =>
  lines1_in l B n₀ T hT J Jx W hJ hJx n hn hY ((hW.cell (p := ⟨B, 0, none⟩) hB).trans hc) h0
end Go.Proofs.YtoohfmkhjhcopaaGreatDoor.AF
