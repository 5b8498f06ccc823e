/-
  Both clocks through many calls; the closed case. Nothing here is a statement of the seed.
-/
import Derived.Test.YtcpkiepdpmaeoaaEpSame
set_option linter.unusedSimpArgs false
set_option linter.unusedVariables false
namespace Go.Proofs.Ytcpkiepdpmaeoaa.EL
open Go.RowKit WM NR OM OR EM ER EF EP
set_option maxHeartbeats 4000000
set_option maxRecDepth 10000
/-- the law's two clocks on the way: r's box p, the program's clock v -/
structure PJ (w : World) (p : Nat) (G S : Nat → Prop) (u : World) (v : Value) (la : Option Addr) (ln lc : Nat) (c : Ck) : Prop where
  Z : Whole u p 29 (ckC c.now la ln lc)
  D : Duo G S u v la ln lc c
  B : Below w.heap.size w u
  SB : ∀ g, S g → w.heap.size ≤ g ∧ g ≠ p
  GB : ∀ g, G g → g ≠ p
  hp : w.heap.size ≤ p
section
variable {w : World} {p : Nat} {G S G' S' : Nat → Prop} {u u' : World} {v : Value} {la : Option Addr} {ln lc : Nat} {la' : Option Addr} {ln' lc' : Nat} {c c' : Ck} {n : Nat}
theorem PJ.belowS (h : PJ w p G S u v la ln lc c) (hb : Below u.heap.size u u') : PJ w p G S u' v la ln lc c := ⟨h.Z.belowS hb, h.D.belowS hb, h.B.trans (hb.mono h.B.size), h.SB, h.GB, h.hp⟩
theorem PJ.step (h : PJ w p G S u v la ln lc c) (d : Duo G' S' u' v la' ln' lc' c') (hS' : ∀ g, S' g → S g ∨ u.heap.size ≤ g) (hG' : ∀ g, G' g → G g ∨ u.heap.size ≤ g) (hF : Fr S u u') :
    Whole u' p 29 (ckC c.now la ln lc) ∧ PJ w p G' S' ((u'.setCell ⟨p, 0, none⟩ (.int .u64 c'.now)).setCell ⟨p, 1, none⟩ (.slice la' ln' lc')) v la' ln' lc' c' := by
  have hz := h.Z.lt
  have nS : ¬ S p := fun hh => (h.SB p hh).2 rfl
  have nG : ¬ G p := fun hh => h.GB p hh rfl
  have nS' : ¬ S' p := fun hh => (hS' p hh).elim nS (fun h => by omega)
  have nG' : ¬ G' p := fun hh => (hG' p hh).elim nG (fun h => by omega)
  have z := h.Z.fr hF nS
  have hB : Below w.heap.size w u' := Below.fr h.B hF h.B.size fun i hi => (h.SB i hi).1
  have hw := h.B.size
  refine ⟨z, (z.set_ 0 _).set_ 1 _, (d.far (p := ⟨p, 0, none⟩) nS' nG' _).far (p := ⟨p, 1, none⟩) nS' nG' _, (hB.setCell (by exact h.hp) _).setCell (by exact h.hp) _, fun g hg => ⟨?_, fun e => nS' (e ▸ hg)⟩, fun g hg e => nG' (e ▸ hg), h.hp⟩
  rcases hS' g hg with h1 | h1
  · exact (h.SB g h1).1
  · omega
theorem PJ.rdH (h : PJ w p G S u v la ln lc c) {a : Option Addr} {m k : Nat} {hs : List Hr} (hx : ReadsH (· < w.heap.size) u (.slice a m k) hs) : RdH S u a m k hs :=
  hx.mono fun g hg hl => ⟨fun hh => by have := (h.SB g hh).1; omega, hl⟩
theorem PJ.act (h : PJ w p G S u v la ln lc c) {x : Ac} (hx : AcOk (· < w.heap.size) u x) : AcOk (fun g => ¬ S g ∧ g < u.heap.size) u x :=
  ⟨hx.kind, hx.ow, h.rdH hx.hs⟩
/-- a call of both -/
theorem PJ.do_ (h : PJ w p G S u v la ln lc c) (hg : Gd c n) (hn : n ≤ 1000) (x : Ac) (hx : AcOk (· < w.heap.size) u x) :
    Calls Try.prog 10 #[v, ckV c.now la ln lc, acV x] u fun e u' => ∃ la' ln' lc' G' S', e = .returned (.tuple #[ckV (actM c x).now la' ln' lc', .bool true]) ∧ Below w.heap.size w u' ∧ Whole u' p 29 (ckC c.now la ln lc) ∧ PJ w p G' S' ((u'.setCell ⟨p, 0, none⟩ (.int .u64 (actM c x).now)).setCell ⟨p, 1, none⟩ (.slice la' ln' lc')) v la' ln' lc' (actM c x) := by
  refine (do_any h.D hg hn x (h.act hx)).mono fun e u' he => ?_
  obtain ⟨la', ln', lc', G', S', rfl, hD, hS', hG', hF⟩ := he
  have s := h.step hD hS' hG' hF
  exact ⟨la', ln', lc', G', S', rfl, Below.fr h.B hF h.B.size fun i hi => (h.SB i hi).1, s.1, s.2⟩
/-- what both tell -/
theorem PJ.same_ (h : PJ w p G S u v la ln lc c) (hg : Gd c n) (hn : n ≤ 1000) {a : Option Addr} {m k : Nat} {hs : List Hr} (hx : ReadsH (· < w.heap.size) u (.slice a m k) hs) :
    Calls Try.prog 11 #[v, ckV c.now la ln lc, .slice a m k] u fun e u' => e = .returned (.bool true) ∧ Below u.heap.size u u' :=
  same_any h.D hg hn (h.rdH hx)
/-- a new clock and an empty one -/
theorem PJ.zero {w2 : World} (hP : PT S w2 v c0) (hS : ∀ b, S b → w.heap.size ≤ b) (hB : Below w.heap.size w w2) :
    PJ w w2.heap.size (fun _ => False) S (w2.alloc (.cells (ckC 0 none 0 0) 29)) v none 0 0 c0 := by
  have bn := below_new w2 (.cells (ckC 0 none 0 0) 29)
  exact ⟨Whole.new _ _ _, ⟨hP.keep bn.size (fun g hg => bn.block g (hP.lt g hg)), ReadsW.nil _ _, fun g hg => hg.elim⟩, hB.trans (bn.mono hB.size), fun g hg => ⟨hS g hg, by have := hP.lt g hg; omega⟩, fun g hg => hg.elim, hB.size⟩
/-- the pair that a fork begins: its base world is the one at the fork, so that what was there is told on -/
theorem PJ.fork {p2 : Nat} {S2 : Nat → Prop} {u1 : World} {v2 : Value} (h : PJ w p G S u v la ln lc c) (hb : Below u.heap.size u u1) (hP : PT S2 u1 v2 c) (hS : ∀ g, S2 g → u.heap.size ≤ g) (hZ : Whole u1 p2 29 (ckC c.now la ln lc)) (hp : u.heap.size ≤ p2) (hne : ∀ g, S2 g → g ≠ p2) :
    PJ u p2 G S2 u1 v2 la ln lc c :=
  ⟨hZ, ⟨hP, h.D.R.keep fun g hg _ => hb.block g (h.D.GS g hg).2, fun g hg => ⟨fun hh => by have := hS g hh; have := (h.D.GS g hg).2; omega, Nat.lt_of_lt_of_le (h.D.GS g hg).2 hb.size⟩⟩, hb, fun g hg => ⟨hS g hg, hne g hg⟩, fun g hg e => by have := (h.D.GS g hg).2; omega, hp⟩
/-- behind the fork: the copy of r is made after the call .. -/
theorem PJ.fork_a {S2 : Nat → Prop} {u1 : World} {v2 : Value} (h : PJ w p G S u v la ln lc c) (hb : Below u.heap.size u u1) (hP : PT S2 u1 v2 c) (hS : ∀ g, S2 g → u.heap.size ≤ g) :
    PJ w p G S (u1.alloc (.cells (ckC c.now la ln lc) 29)) v la ln lc c ∧ PJ u u1.heap.size G S2 (u1.alloc (.cells (ckC c.now la ln lc) 29)) v2 la ln lc c := by
  have bn := below_new u1 (.cells (ckC c.now la ln lc) 29)
  have hb2 := hb.trans (bn.mono hb.size)
  exact ⟨h.belowS hb2, h.fork hb2 (hP.keep bn.size fun g hg => bn.block g (hP.lt g hg)) hS (Whole.new _ _ _) hb.size fun g hg e => by have := hP.lt g hg; omega⟩
/-- .. or ahead of it -/
theorem PJ.fork_b {p2 : Nat} {S2 : Nat → Prop} {u1 : World} {v2 : Value} (h : PJ w p G S u v la ln lc c) (hb : Below u.heap.size u u1) (hP : PT S2 u1 v2 c) (hS : ∀ g, S2 g → u.heap.size ≤ g) (hZ : Whole u1 p2 29 (ckC 0 none 0 0)) (hp : u.heap.size ≤ p2) (hne : ∀ g, S2 g → g ≠ p2) :
    PJ w p G S ((u1.setCell ⟨p2, 0, none⟩ (.int .u64 c.now)).setCell ⟨p2, 1, none⟩ (.slice la ln lc)) v la ln lc c ∧ PJ u p2 G S2 ((u1.setCell ⟨p2, 0, none⟩ (.int .u64 c.now)).setCell ⟨p2, 1, none⟩ (.slice la ln lc)) v2 la ln lc c := by
  have hb2 : Below u.heap.size u ((u1.setCell ⟨p2, 0, none⟩ (.int .u64 c.now)).setCell ⟨p2, 1, none⟩ (.slice la ln lc)) := (hb.setCell (by exact hp) _).setCell (by exact hp) _
  exact ⟨h.belowS hb2, h.fork hb2 (hP.keep (by simp) fun g hg => (Below.heap_setCell _ _ _ _ (fun e => hne g hg e)).trans (Below.heap_setCell _ _ _ _ (fun e => hne g hg e))) hS ((hZ.set_ 0 _).set_ 1 _) hp hne⟩
end
/-! the closed case -/
/-- a clock made since w -/
def AW (w : World) (v : Value) (c : Ck) (u : World) : Prop := ∃ S, PT S u v c ∧ (∀ c, S c → w.heap.size ≤ c) ∧ Below w.heap.size w u
abbrev C1 : Ck := ⟨1, [⟨7, 1⟩]⟩
theorem C1_gd : Gd C1 1 := by
  have := gd_ret gd_zero (o := 7) (by decide)
  exact this
abbrev hrE (y : Hr) : Array Value := #[.int .u32 y.pc, .int .u32 (y.r 0), .int .u32 (y.r 1), .int .u32 (y.r 2), .int .u32 (y.r 3), .int .u32 (y.r 4), .int .u32 (y.r 5), .int .u32 (y.r 6), .int .u32 (y.r 7), .slice y.sa y.sn y.sc, .int .u8 y.why, .int .u64 y.ep, .int .u32 y.home]
theorem one_hart (u : World) (x : Hr) (hx : HrOk x) (t : TypeId) : ReadsH (fun g => g = u.heap.size) (u.alloc (.cells (hrE x) t)) (.slice (some ⟨u.heap.size, 0, none⟩) 1 1) [x] := by
  refine ⟨_, 1, rfl, Nat.le_refl _, by simp [maxLen], Or.inr ⟨u.heap.size, 0, rfl, rfl, by simp, fun j hj => ?_⟩, fun y hy => by rw [List.mem_singleton.1 hy]; exact hx⟩
  obtain rfl : j = 0 := by simp at hj; omega
  have k := fun i => (Whole.new u t (hrE x)).cell i
  exact ⟨k 0, k 1, k 2, k 3, k 4, k 5, k 6, k 7, k 8, k 9, k 10, k 11, k 12⟩
theorem aw_due {w u : World} {v : Value} (h : AW w v C1 u) (x : Hr) (hx : HrOk x) {cs : Array Value} (hc : cs = hrE x) {L : List Int} (hL : dueM [x] C1.l = L) :
    Calls Try.prog 19 #[v, .slice (some ⟨u.heap.size, 0, none⟩) 1 1] (u.alloc (.cells cs 59)) fun e u' => ∃ a k, e = .returned (.slice a L.length k) ∧ Reads (· < u'.heap.size) u' (.slice a L.length k) (oC L) ∧ AW w v C1 u' := by
  subst hc hL
  obtain ⟨S, h1, h2, h3⟩ := h
  have hal := below_new u (.cells (hrE x) 59)
  refine (due_any (h1.keep hal.size fun g hg => hal.block g (h1.lt g hg)) C1_gd (by decide) ((one_hart u x hx _).mono fun g hg hl => ⟨fun hh => by have := h1.lt g hh; omega, hl⟩)).mono fun e u' he => ?_
  obtain ⟨q, rfl, hq, hb⟩ := he
  obtain ⟨a, m, k, rfl⟩ := Reads.form hq
  have hm := (reads_len hq).1
  rw [oC_len] at hm
  subst hm
  have hb3 := h3.trans ((hal.trans (hb.mono hal.size)).mono h3.size)
  exact ⟨a, k, rfl, hq.mono fun g hg => hg.2, S, h1.keep (hal.trans (hb.mono hal.size)).size fun g hg => (hal.trans (hb.mono hal.size)).block g (h1.lt g hg), h2, hb3⟩
theorem awake_any (w : World) : Calls Try.prog 8 #[] w fun e w' => e = .returned (.bool true) ∧ Below w.heap.size w w' := by
  have A1 := Lib.hid (new_any w)
  go_enter Try.func8, Try.ntmps8
  go_upto_region 2 with (go_at_call 9; (with_reducible refine A1.out.mono ?_); rintro e w1 ⟨v, S, rfl, hp, hS, hb1⟩)
  obtain ⟨va, rfl⟩ := hp.form
  have A2 := Lib.hid (ret_any hp gd_zero (by decide) 7 (by decide))
  rw [show retV c0 = 1 by decide, show retE c0 = 0 by decide] at A2
  have HSB := Lib.hid (And.intro hS hb1)
  clear hp hS hb1 A1
  go_upto_region 3 with (go_at_call 17; (with_reducible refine A2.out.mono ?_); rintro e w2 ⟨rfl, S', hP, hS', hF⟩)
  have HW2 := Lib.hid (show AW w (.pointer (some va)) C1 w2 from ⟨S', hP, fun c hc => (hS' c hc).elim (HSB.out.1 c) (fun h => Nat.le_trans HSB.out.2.size h), Below.fr HSB.out.2 hF HSB.out.2.size HSB.out.1⟩)
  clear hP hS' hF A2 HSB
  have D1 : Hid (∀ u, AW w (.pointer (some va)) C1 u → Calls Try.prog 19 #[.pointer (some va), .slice (some ⟨u.heap.size, 0, none⟩) 1 1] (u.alloc (.cells #[.int .u32 0, .int .u32 0, .int .u32 0, .int .u32 0, .int .u32 0, .int .u32 0, .int .u32 0, .int .u32 0, .int .u32 0, .slice none 0 0, .int .u8 0, .int .u64 0, .int .u32 0] 59)) fun e u' => ∃ a k, e = .returned (.slice a 0 k) ∧ AW w (.pointer (some va)) C1 u') := Lib.hid (fun u hu => (aw_due hu h0 h0_ok rfl (L := []) (by decide)).mono fun e u' ⟨a, k, h1, _, h2⟩ => ⟨a, k, h1, h2⟩)
  have D2 : Hid (∀ u, AW w (.pointer (some va)) C1 u → Calls Try.prog 19 #[.pointer (some va), .slice (some ⟨u.heap.size, 0, none⟩) 1 1] (u.alloc (.cells #[.int .u32 0, .int .u32 0, .int .u32 0, .int .u32 0, .int .u32 0, .int .u32 0, .int .u32 0, .int .u32 0, .int .u32 0, .slice none 0 0, .int .u8 0, .int .u64 1, .int .u32 0] 59)) fun e u' => ∃ a k, e = .returned (.slice a 1 k) ∧ Reads (· < u'.heap.size) u' (.slice a 1 k) (oC [7]) ∧ AW w (.pointer (some va)) C1 u') := Lib.hid (fun u hu => aw_due hu ⟨0, fun _ => 0, none, 0, 0, 0, 1, 0⟩ ⟨by decide, by decide⟩ rfl (L := [7]) (by decide))
  have D3 : Hid (∀ u a k, Reads (· < u.heap.size) u (.slice a 1 k) (oC [7]) → Calls Try.prog 23 #[.slice a 1 k, .slice (some ⟨u.heap.size, 0, none⟩) 1 1] (u.alloc (.cells #[.int .u16 7] 32)) fun e u' => e = .returned (.bool true) ∧ Below u.heap.size u u') := Lib.hid (fun u a k h => by
    have hal := below_new u (.cells #[.int .u16 7] 32)
    have h2 : Reads (· < (u.alloc (.cells #[.int .u16 7] 32)).heap.size) (u.alloc (.cells #[.int .u16 7] 32)) (.slice (some ⟨u.heap.size, 0, none⟩) 1 1) (oC [7]) := ⟨_, 1, rfl, Nat.le_refl _, by simp [maxLen], fun h => (by cases h), Or.inr ⟨u.heap.size, 0, rfl, by simp, fun j hj => by
      obtain rfl : j = 0 := by simp [oC] at hj; omega
      exact (Whole.new u _ #[.int .u16 7]).cell 0⟩⟩
    have := sameOwners_any ((h.alloc (.cells #[.int .u16 7] 32)).mono fun g hg => (show g < (u.alloc (.cells #[.int .u16 7] 32)).heap.size by simp; omega)) h2
    rw [decide_eq_true rfl] at this
    exact this.mono fun e u' ⟨h1, h2⟩ => ⟨h1, hal.trans (h2.mono hal.size)⟩)
  have D4 : Hid (∀ u, Calls Try.prog 14 #[.slice none 0 0, .int .u64 9] u fun e u' => e = .returned (.bool true) ∧ Below u.heap.size u u') := Lib.hid (fun u => by
    have := passed_any (w := u) (ReadsH.nil _ _) 9 (by decide)
    rwa [pas_nil] at this)
  have ANB : ∀ {u c}, AW w (.pointer (some va)) c u → Below w.heap.size w u := fun ⟨_, _, _, h⟩ => h
  go_wp2_with (first
    | (go_at_call 19; (with_reducible refine (D1.out _ HW2.out).mono ?_); rintro e w3 ⟨qa, qk, rfl, hw3⟩; have HW3 := Lib.hid hw3; clear hw3)
    | (go_at_call 19; (with_reducible refine (D2.out _ HW3.out).mono ?_); rintro e w4 ⟨ra, rk, rfl, hr4, hw4⟩; have HR4 := Lib.hid hr4; have HW4 := Lib.hid (ANB hw4); clear hr4 hw4)
    | (go_at_call 23; (with_reducible refine (D3.out _ _ _ HR4.out).mono ?_); rintro e w5 ⟨rfl, hb5⟩; have HW5 := Lib.hid (HW4.out.trans (hb5.mono HW4.out.size)); clear hb5)
    | (go_at_call 14; (with_reducible refine (D4.out _).mono ?_); rintro e w6 ⟨rfl, hb6⟩; have HW6 := Lib.hid (HW5.out.trans (hb6.mono HW5.out.size)); clear hb6))
  go_ret
  exact ⟨rfl, HW6.out⟩
end Go.Proofs.Ytcpkiepdpmaeoaa.EL
