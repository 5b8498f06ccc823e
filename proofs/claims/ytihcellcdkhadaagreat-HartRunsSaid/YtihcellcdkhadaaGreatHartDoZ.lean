/-
  One instruction, whatever it is. Nothing here is a statement of the seed.
-/
import Derived.Test.YtihcellcdkhadaaGreatHartDoA
import Derived.Test.YtihcellcdkhadaaGreatHartDoB
import Derived.Test.YtihcellcdkhadaaGreatHartDoC
import Derived.Test.YtihcellcdkhadaaGreatHartDoD
import Derived.Test.YtihcellcdkhadaaGreatHartDoE
import Derived.Test.YtihcellcdkhadaaGreatHartCopy
import Derived.Deep.CutRange
set_option linter.unusedSimpArgs false
set_option linter.unusedVariables false
namespace Go.Proofs.YtihcellcdkhadaaGreat.HF
open Go.RowKit PM PR PF MM MR MF HM HR
set_option maxHeartbeats 2000000
set_option maxRecDepth 10000
/-- a safepoint passed, or not -/
theorem does_pass {f : FuncId} {args : Array Value} {u : World} {B p t g gw : Nat} {h : Ht} {M : Mm} {a : Option Addr} {n c : Nat} {xe k : Int} (hlen : h.sk.length = n) (C : Calls Tryz.prog f args u fun e w' => e = .returned (.tuple #[if 0 < n then hV h.pc h.r a n c k h.ep h.home else hV h.home h.r a n c h.why xe h.home, nV (decide (n = 0)) false 0 0]) ∧ Below u.heap.size u w') (sk : Sk u B a n c h.sk) (pm : Pm u p t g gw M) :
    Calls Tryz.prog f args u (Does B p t g gw a n c (passR h M xe k) u) := by
  unfold passR
  rw [hlen]
  by_cases hn : 0 < n
  · rw [if_pos hn, decide_eq_false (show ¬ n = 0 by omega)] at C
    rw [if_pos hn]
    exact does_says (r := stillR h M k) C sk pm
  · obtain rfl : n = 0 := by omega
    rw [if_neg hn, decide_eq_true rfl] at C
    rw [if_neg hn]
    exact does_says (r := ⟨⟨h.home, h.r, h.sk, h.why, xe, h.home⟩, M, true, false, 0, 0⟩) C sk pm
theorem sk_pos {w : World} {B n c : Nat} {a : Option Addr} {l : List Int} (h : Sk w B a n c l) : ∀ k, (Value.slice a n c).ownBlock = some k → k < w.heap.size := fun k hk => (World.ownsRow.lt h k hk).2
/-- one instruction, whatever it is -/
theorem do_any {w : World} {B p t g gw : Nat} {h : Ht} {M : Mm} {a : Option Addr} {n c : Nat} (pm : Pm w p t g gw M) (sk : Sk w B a n c h.sk) (low : Low B p t g gw) (hB : B ≤ w.heap.size) (ok : HOk h) (own xe o d x y m : Int) (io : IM.InsOk o d x y m) :
    Calls Tryz.prog 31 #[hV h.pc h.r a n c h.why h.ep h.home, .agg #[.int .u8 o, .int .u8 d, .int .u8 x, .int .u8 y, .int .i32 m], .pointer (some ⟨p, 0, none⟩), .int .u16 own, .int .u64 xe] w (Does B p t g gw a n c (doR h M own xe o d x y m) w) := by
  have kO := sk_pos sk
  have hlen := sk.len
  obtain ⟨io1, io2, hd0, hd1, hx0, hx1, hy0, hy1, hm0, hm1, _⟩ := id io
  have hd : 0 ≤ d ∧ d ≤ 7 := ⟨hd0, hd1⟩
  have hx : 0 ≤ x ∧ x ≤ 7 := ⟨hx0, hx1⟩
  have hy : 0 ≤ y ∧ y ≤ 7 := ⟨hy0, hy1⟩
  have hm : -1048576 ≤ m ∧ m ≤ 1048575 := ⟨hm0, hm1⟩
  have hm64 : o = 21 → 0 ≤ m ∧ m ≤ 63 := fun e => by subst e; unfold IM.InsOk at io; omega
  have hs : ∀ u, Below w.heap.size w u → Sk u B a n c h.sk := fun u hb => sk.belowS hb
  have hp : ∀ u, Below w.heap.size w u → Pm u p t g gw M := fun u hb => pm.belowS hb
  have hT : ∀ o', o' = o → (o = 14 ∨ o = 15 ∨ o = 16) → IF.Says Tryz.prog 108 #[.int .u32 h.pc, .agg #[.int .u8 o', .int .u8 d, .int .u8 x, .int .u8 y, .int .i32 m]] (.tuple #[.int .u32 (goX h.pc o' m), .bool true]) := fun o' e ho => by
    subst e
    have := IF.target_any h.pc o' d x y m ok.pc (IF.good_fit io)
    have hg : IF.goB o' d x y m = true := by
      unfold IF.goB
      have := (IM.chk_good io1 hd0 hx0 hy0).2 io
      rw [decide_eq_true_eq]
      exact ⟨this, by omega⟩
    unfold IF.tgtV at this
    rw [hg] at this
    exact this
  have CC : o = 0 ∨ o = 1 ∨ o = 2 ∨ o = 3 ∨ o = 4 ∨ o = 5 ∨ o = 6 ∨ o = 7 ∨ o = 8 ∨ o = 9 ∨ o = 10 ∨ o = 11 ∨ o = 12 ∨ o = 13 ∨ o = 14 ∨ o = 15 ∨ o = 16 ∨ o = 17 ∨ o = 18 ∨ o = 19 ∨ o = 20 ∨ o = 21 := by omega
  rcases CC with rfl | rfl | rfl | rfl | rfl | rfl | rfl | rfl | rfl | rfl | rfl | rfl | rfl | rfl | rfl | rfl | rfl | rfl | rfl | rfl | rfl | rfl
  · exact do_0 pm kO own xe d x y m hd hx hy hm fun u hb => does_says (r := stillR h M 1) (stop_any _ _ _ _ _ _ _ _ 1 u) (hs u hb) (hp u hb)
  · exact do_1 pm kO own xe d x y m hd hx hy hm fun u hb => does_says (r := turnR h M (up h.pc)) (turn_any _ _ _ _ _ _ _ _ _ u) (hs u hb) (hp u hb)
  · exact do_2 pm kO own xe d x y m hd hx hy hm fun u hb => does_says (r := setR h M d (imm m)) (put_any _ _ _ _ _ _ _ _ d _ hd u) (hs u hb) (hp u hb)
  · exact do_3 pm kO own xe d x y m hd hx hy hm fun u hb => does_says (r := setR h M d (reck 3 (getR h.r x) (getR h.r y))) (put_any _ _ _ _ _ _ _ _ d _ hd u) (hs u hb) (hp u hb)
  · exact do_4 pm kO own xe d x y m hd hx hy hm fun u hb => does_says (r := setR h M d (reck 4 (getR h.r x) (getR h.r y))) (put_any _ _ _ _ _ _ _ _ d _ hd u) (hs u hb) (hp u hb)
  · exact do_5 pm kO own xe d x y m hd hx hy hm fun u hb => does_says (r := setR h M d (reck 5 (getR h.r x) (getR h.r y))) (put_any _ _ _ _ _ _ _ _ d _ hd u) (hs u hb) (hp u hb)
  · exact do_6 pm kO own xe d x y m hd hx hy hm fun u hb => does_says (r := setR h M d (reck 6 (getR h.r x) (getR h.r y))) (put_any _ _ _ _ _ _ _ _ d _ hd u) (hs u hb) (hp u hb)
  · exact do_7 pm kO own xe d x y m hd hx hy hm fun u hb => does_says (r := setR h M d (reck 7 (getR h.r x) (getR h.r y))) (put_any _ _ _ _ _ _ _ _ d _ hd u) (hs u hb) (hp u hb)
  · exact do_8 pm kO own xe d x y m hd hx hy hm (getR_ok ok y) fun u hb => does_says (r := setR h M d (reck 8 (getR h.r x) (getR h.r y))) (put_any _ _ _ _ _ _ _ _ d _ hd u) (hs u hb) (hp u hb)
  · exact do_9 pm kO own xe d x y m hd hx hy hm (getR_ok ok y) fun u hb => does_says (r := setR h M d (reck 9 (getR h.r x) (getR h.r y))) (put_any _ _ _ _ _ _ _ _ d _ hd u) (hs u hb) (hp u hb)
  · exact do_10 pm kO own xe d x y m hd hx hy hm fun u hb => does_says (r := setR h M d (reck 10 (getR h.r x) (getR h.r y))) (put_any _ _ _ _ _ _ _ _ d _ hd u) (hs u hb) (hp u hb)
  · exact do_11 pm kO own xe d x y m hd hx hy hm fun u hb => does_says (r := setR h M d (addr h x m)) (put_any _ _ _ _ _ _ _ _ d _ hd u) (hs u hb) (hp u hb)
  · refine do_12 pm kO own xe d x y m hd hx hy hm fun u hb => ?_
    have C := hload_any (hp u hb) h.pc h.r a n c h.why h.ep h.home d (addr h x m) hd (b32_mod _)
    show Calls _ _ _ _ (Does B p t g gw a n c (loadR h M d (addr h x m)) u)
    unfold loadR
    cases hL : loadB M (addr h x m) h.ep
    · rw [hL] at C
      exact does_says (r := stillR h M 4) C (hs u hb) (hp u hb)
    · rw [hL] at C
      exact does_says (r := setR h M d (loadW M (addr h x m) h.ep)) C (hs u hb) (hp u hb)
  · exact do_13 pm kO own xe d x y m hd hx hy hm fun u hb => hstore_any (hp u hb) (hs u hb) low own (addr h x m) (getR h.r d) (b32_mod _)
  · exact do_14 pm kO own xe d x y m hd hx hy hm fun u hb => does_says (r := turnR h M (goX h.pc 14 m)) (branch_any _ _ _ _ _ _ _ _ 14 d x y m _ true (hT 14 rfl (by omega)) u) (hs u hb) (hp u hb)
  · refine do_15 pm kO own xe d x y m hd hx hy hm fun u hb => ?_
    have C := branch_any h.pc h.r a n c h.why h.ep h.home 15 d x y m _ (getR h.r d == getR h.r x) (hT 15 rfl (by omega)) u
    show Calls _ _ _ _ (Does B p t g gw a n c (turnR h M (if getR h.r d = getR h.r x then goX h.pc 15 m else up h.pc)) u)
    have e : (if (getR h.r d == getR h.r x) = true then goX h.pc 15 m else up h.pc) = (if getR h.r d = getR h.r x then goX h.pc 15 m else up h.pc) := by
      by_cases h' : getR h.r d = getR h.r x <;> simp [h']
    rw [e] at C
    exact does_says (r := turnR h M (if getR h.r d = getR h.r x then goX h.pc 15 m else up h.pc)) C (hs u hb) (hp u hb)
  · refine do_16 pm kO own xe d x y m hd hx hy hm fun u hb => ?_
    have C := branch_any h.pc h.r a n c h.why h.ep h.home 16 d x y m _ (getR h.r d != getR h.r x) (hT 16 rfl (by omega)) u
    show Calls _ _ _ _ (Does B p t g gw a n c (turnR h M (if getR h.r d = getR h.r x then up h.pc else goX h.pc 16 m)) u)
    have e : (if (getR h.r d != getR h.r x) = true then goX h.pc 16 m else up h.pc) = (if getR h.r d = getR h.r x then up h.pc else goX h.pc 16 m) := by
      by_cases h' : getR h.r d = getR h.r x <;> simp [h']
    rw [e] at C
    exact does_says (r := turnR h M (if getR h.r d = getR h.r x then up h.pc else goX h.pc 16 m)) C (hs u hb) (hp u hb)
  · exact do_17 pm kO own xe d x y m hd hx hy hm fun u hb => hcall_any (hp u hb) (hs u hb) low (Nat.le_trans hB hb.size) (imm m)
  · show Calls _ _ _ _ (Does B p t g gw a n c (if 0 < h.sk.length then backR h M else passR h M xe 6) w)
    rw [hlen]
    by_cases hn : 0 < n
    · rw [if_pos hn]
      exact do_18 pm kO own xe d x y m hd hx hy hm (by omega) fun u hb => hback_any (hp u hb) (hs u hb) low (Nat.le_trans hB hb.size) hn
    · rw [if_neg hn]
      obtain rfl : n = 0 := by omega
      refine do_18e pm kO own xe d x y m hd hx hy hm (by omega) fun u hb => ?_
      have C := pass_any h.pc h.r a 0 c h.why h.ep h.home xe 6 u
      unfold passR
      rw [hlen]
      exact does_says (r := ⟨⟨h.home, h.r, h.sk, h.why, xe, h.home⟩, M, true, false, 0, 0⟩) C (hs u hb) (hp u hb)
  · exact do_19 pm kO own xe d x y m hd hx hy hm fun u hb => does_says (r := turnR h M (getR h.r x)) (turn_any _ _ _ _ _ _ _ _ _ u) (hs u hb) (hp u hb)
  · refine do_20 pm kO own xe d x y m hd hx hy hm fun u hb => ?_
    have C := pass_any h.pc h.r a n c h.why h.ep h.home xe 6 u
    show Calls _ _ _ _ (Does B p t g gw a n c (passR h M xe 6) u)
    exact does_pass hlen C (hs u hb) (hp u hb)
  · refine do_21 pm kO own xe d x y m hd hx hy hm fun u hb => ?_
    obtain ⟨z0, z1⟩ := hm64 rfl
    have C := enter_any (hp u hb) h.pc h.r a n c h.why h.ep h.home m xe ⟨z0, z1⟩
    rw [show m % 4294967296 = m by omega]
    show Calls _ _ _ _ (Does B p t g gw a n c (enterR h M m xe) u)
    unfold enterR
    by_cases hg : gate M (m / 8) = 0
    · rw [if_pos hg] at C ⊢
      exact does_pass hlen C (hs u hb) (hp u hb)
    · rw [if_neg hg] at C ⊢
      exact does_says (r := turnR h M ((gate M (m / 8) + m % 8) % 4294967296)) C (hs u hb) (hp u hb)
end Go.Proofs.YtihcellcdkhadaaGreat.HF
