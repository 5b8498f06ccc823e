/-
  What the program's functions of layer 14 tell of three nodes. Nothing here is a statement of the seed.
-/
import Derived.Test.YtijcojidfallkaaGraphNil
import Derived.Test.YtijcojidfallkaaGraphPF
import Derived.Test.YtijcojidfallkaaGraphRef3
set_option linter.unusedSimpArgs false
set_option linter.unusedVariables false
namespace Go.Proofs.Ytijcojidfallkaa.GP
open Go.RowKit WM NR OM OR GM GR MV GF
set_option maxHeartbeats 4000000
set_option maxRecDepth 10000
theorem order_any {S : Nat → Prop} {w : World} {v : Value} {g : List Nd} (h : PT S w v g) (hg : GM.Good g) (hb : g.length ≤ 100) :
    Calls Try.prog 21 #[v] w (IsL w (orderM g)) := by
  obtain ⟨a, b, k, rfl, h⟩ := h
  exact GO.order_pt h hg hb
abbrev G1 : List Nd := [⟨[97], []⟩]
abbrev G2 : List Nd := [⟨[97], []⟩, ⟨[98], [[97]]⟩]
abbrev G3 : List Nd := [⟨[97], []⟩, ⟨[98], [[97]]⟩, ⟨[99], [[97], [98]]⟩]
theorem aw1 : addM [] [97] [] = (G1, 0) := by kernel_rfl
theorem aw2 : addM G1 [98] [[97]] = (G2, 0) := by kernel_rfl
theorem aw3 : addM G2 [99] [[98], [97]] = (G3, 0) := by kernel_rfl
theorem aw4 : orderM G3 = [[97], [98], [99]] := by kernel_rfl
theorem aw5 : dptM G3 [97] = [[98], [99]] := by kernel_rfl
theorem aw6 : removeM G3 [97] = (G3, 26) := by kernel_rfl
theorem aw7 : turnM G3 [97] [[99]] = (G3, 24) := by kernel_rfl
theorem awG1 : GM.Good G1 := by have := good_add good_nil [97] []; rw [aw1] at this; exact this
theorem awG2 : GM.Good G2 := by have := good_add awG1 [98] [[97]]; rw [aw2] at this; exact this
theorem awG3 : GM.Good G3 := by have := good_add awG2 [99] [[98], [97]]; rw [aw3] at this; exact this
/-- a graph made since w -/
def AW (w : World) (v : Value) (g : List Nd) (u : World) : Prop := ∃ S, PT S u v g ∧ (∀ c, S c → w.heap.size ≤ c) ∧ Below w.heap.size w u
section
variable {w u u' : World} {v : Value} {g g' : List Nd}
theorem AW.below (h : AW w v g u) (hb : Below u.heap.size u u') : AW w v g u' := by
  obtain ⟨S, h1, h2, h3⟩ := h
  exact ⟨S, h1.keep hb.size fun c hc => hb.block c (h1.lt c hc), h2, below_of h3 hb⟩
theorem aw_chg {S : Nat → Prop} (hs : ∀ c, S c → w.heap.size ≤ c) (hb : Below w.heap.size w u) (h : Chg S u v g' u') : AW w v g' u' := by
  obtain ⟨S', h1, h2, h3⟩ := h
  exact ⟨S', h1, fun c hc => (h2 c hc).elim (hs c) (fun h => Nat.le_trans hb.size h), OR.Below.fr hb h3 hb.size hs⟩
theorem AW.end_ (h : AW w v g u) : Below w.heap.size w u := by obtain ⟨S, _, _, h3⟩ := h; exact h3
theorem aw_read {S : Nat → Prop} (hS : ∀ g, S g → g < u.heap.size) (xs : List (List UInt8)) (hx : xs.length ≤ 8) {cs : Array Value} (hc : cs = (strs xs).toArray) : Reads (fun g => ¬ S g ∧ g < (u.alloc (.cells cs 9)).heap.size) (u.alloc (.cells cs 9)) (.slice (some ⟨u.heap.size, 0, none⟩) xs.length xs.length) (strs xs) := by
  subst hc
  have hl : (strs xs).length = xs.length := by rw [strs_len]
  refine ⟨_, xs.length, by rw [hl], by rw [hl]; exact Nat.le_refl _, by unfold maxLen; omega, fun h => (by cases h), Or.inr ⟨u.heap.size, 0, rfl, ⟨fun h => absurd (hS _ h) (by omega), by simp⟩, fun j hj => ?_⟩⟩
  rw [Nat.zero_add]
  have := (Whole.new u 9 (strs xs).toArray).cell j
  rw [this]
  simp
theorem aw_add (h : AW w v g u) (hg : GM.Good g) (hb : g.length ≤ 100) (m : Tx) (hm : m.length ≤ 10) (xs : List Tx) (hxs : ∀ x ∈ xs, x.length ≤ 10) (hx : xs.length ≤ 8) {cs : Array Value} (hc : cs = (strs xs).toArray) {r : List Nd × Int} (hr : addM g m xs = r) :
    Calls Try.prog 14 #[v, .string (bs m), .slice (some ⟨u.heap.size, 0, none⟩) xs.length xs.length] (u.alloc (.cells cs 9)) fun e u' => e = .returned (.int .i64 r.2) ∧ AW w v r.1 u' := by
  subst hr
  obtain ⟨S, h1, h2, h3⟩ := h
  have hal := (Below.refl u.heap.size u).alloc (Nat.le_refl _) (.cells cs 9)
  exact (add_any (h1.keep hal.size fun c hc => hal.block c (h1.lt c hc)) hg hb m (by omega) (aw_read h1.lt xs hx hc) (fun x hx => by have := hxs x hx; omega) (by omega)).mono fun e u' ⟨he, hch⟩ => ⟨he, aw_chg h2 (below_of h3 hal) hch⟩
theorem aw_turn (h : AW w v g u) (hg : GM.Good g) (hb : g.length ≤ 100) (m : Tx) (hm : m.length ≤ 10) (xs : List Tx) (hxs : ∀ x ∈ xs, x.length ≤ 10) (hx : xs.length ≤ 8) {cs : Array Value} (hc : cs = (strs xs).toArray) {r : List Nd × Int} (hr : turnM g m xs = r) :
    Calls Try.prog 16 #[v, .string (bs m), .slice (some ⟨u.heap.size, 0, none⟩) xs.length xs.length] (u.alloc (.cells cs 9)) fun e u' => e = .returned (.int .i64 r.2) ∧ AW w v r.1 u' := by
  subst hr
  obtain ⟨S, h1, h2, h3⟩ := h
  have hal := (Below.refl u.heap.size u).alloc (Nat.le_refl _) (.cells cs 9)
  exact (turn_any (h1.keep hal.size fun c hc => hal.block c (h1.lt c hc)) hg hb m (by omega) (aw_read h1.lt xs hx hc) (fun x hx => by have := hxs x hx; omega) (by omega)).mono fun e u' ⟨he, hch⟩ => ⟨he, aw_chg h2 (below_of h3 hal) hch⟩
theorem aw_none (h : AW w v g u) (hg : GM.Good g) (hb : g.length ≤ 100) (m : Tx) (hm : m.length ≤ 10) {r : List Nd × Int} (hr : addM g m [] = r) :
    Calls Try.prog 14 #[v, .string (bs m), .slice none 0 0] u fun e u' => e = .returned (.int .i64 r.2) ∧ AW w v r.1 u' := by
  subst hr
  obtain ⟨S, h1, h2, h3⟩ := h
  exact (add_any h1 hg hb m (by omega) (xs := []) (Reads.nil _ _) (fun x hx => by cases hx) (by decide)).mono fun e u' ⟨he, hch⟩ => ⟨he, aw_chg h2 h3 hch⟩
end
theorem awake_any (w : World) : Calls Try.prog 9 #[] w fun e w' => e = .returned (.bool true) ∧ Below w.heap.size w w' := by
  have C1 := Lib.hid (new_any w)
  go_enter Try.func9, Try.ntmps9
  go_upto_region 2 with (go_at_call 10; (with_reducible refine C1.out.mono ?_); rintro e w1 ⟨v, S, rfl, hp, hS, hb1⟩)
  obtain ⟨a, b, k, rfl, hp⟩ := hp
  have HW1 := Lib.hid (show AW w (.pointer (some ⟨a, 0, none⟩)) [] w1 from ⟨S, ⟨a, b, k, rfl, hp⟩, hS, hb1⟩)
  clear hp hS hb1 C1
  have A1 : Hid (∀ u, AW w (.pointer (some ⟨a, 0, none⟩)) [] u → Calls Try.prog 14 #[.pointer (some ⟨a, 0, none⟩), .string ⟨#[97]⟩, .slice none 0 0] u fun e u' => e = .returned (.int .i64 0) ∧ AW w (.pointer (some ⟨a, 0, none⟩)) G1 u') := Lib.hid (fun u h => aw_none h good_nil (by decide) [97] (by decide) aw1)
  have A2 : Hid (∀ u, AW w (.pointer (some ⟨a, 0, none⟩)) G1 u → Calls Try.prog 14 #[.pointer (some ⟨a, 0, none⟩), .string ⟨#[98]⟩, .slice (some ⟨u.heap.size, 0, none⟩) 1 1] (u.alloc (.cells #[.string ⟨#[97]⟩] 9)) fun e u' => e = .returned (.int .i64 0) ∧ AW w (.pointer (some ⟨a, 0, none⟩)) G2 u') := Lib.hid (fun u h => aw_add h awG1 (by decide) [98] (by decide) [[97]] (by decide) (by decide) rfl aw2)
  have A3 : Hid (∀ u, AW w (.pointer (some ⟨a, 0, none⟩)) G2 u → Calls Try.prog 14 #[.pointer (some ⟨a, 0, none⟩), .string ⟨#[99]⟩, .slice (some ⟨u.heap.size, 0, none⟩) 2 2] (u.alloc (.cells #[.string ⟨#[98]⟩, .string ⟨#[97]⟩] 9)) fun e u' => e = .returned (.int .i64 0) ∧ AW w (.pointer (some ⟨a, 0, none⟩)) G3 u') := Lib.hid (fun u h => aw_add h awG2 (by decide) [99] (by decide) [[98], [97]] (by decide) (by decide) rfl aw3)
  go_upto_region 4 with (first
    | (go_at_call 14; (with_reducible refine (A1.out _ HW1.out).mono ?_); rintro e w2 ⟨rfl, hw2⟩; have HW2 := Lib.hid hw2; clear hw2)
    | (go_at_call 14; (with_reducible refine (A2.out _ HW2.out).mono ?_); rintro e w3 ⟨rfl, hw3⟩; have HW3 := Lib.hid hw3; clear hw3)
    | (go_at_call 14; (with_reducible refine (A3.out _ HW3.out).mono ?_); rintro e w4 ⟨rfl, hw4⟩; have HW4 := Lib.hid hw4; clear hw4))
  clear A1 A2 A3 HW1 HW2 HW3
  have A4 : Hid (∀ u, AW w (.pointer (some ⟨a, 0, none⟩)) G3 u → Calls Try.prog 21 #[.pointer (some ⟨a, 0, none⟩)] u (IsL u [[97], [98], [99]])) := Lib.hid (fun u ⟨S, h1, h2, h3⟩ => by
    have := order_any h1 awG3 (by decide)
    rw [aw4] at this
    exact this)
  have A5 : Hid (∀ u, AW w (.pointer (some ⟨a, 0, none⟩)) G3 u → Calls Try.prog 19 #[.pointer (some ⟨a, 0, none⟩), .string ⟨#[97]⟩] u (IsL u [[98], [99]])) := Lib.hid (fun u ⟨S, h1, h2, h3⟩ => by
    have := dpt_any h1 awG3 (by decide) [97] (by decide)
    rw [aw5] at this
    exact this)
  have A6 : Hid (∀ u, AW w (.pointer (some ⟨a, 0, none⟩)) G3 u → Calls Try.prog 15 #[.pointer (some ⟨a, 0, none⟩), .string ⟨#[97]⟩] u fun e u' => e = .returned (.int .i64 26) ∧ AW w (.pointer (some ⟨a, 0, none⟩)) G3 u') := Lib.hid (fun u ⟨S, h1, h2, h3⟩ => by
    have := remove_any h1 awG3 (by decide) [97] (by decide)
    rw [aw6] at this
    exact this.mono fun e u' ⟨he, hch⟩ => ⟨he, aw_chg h2 h3 hch⟩)
  have A7 : Hid (∀ u, AW w (.pointer (some ⟨a, 0, none⟩)) G3 u → Calls Try.prog 16 #[.pointer (some ⟨a, 0, none⟩), .string ⟨#[97]⟩, .slice (some ⟨u.heap.size, 0, none⟩) 1 1] (u.alloc (.cells #[.string ⟨#[99]⟩] 9)) fun e u' => e = .returned (.int .i64 24) ∧ AW w (.pointer (some ⟨a, 0, none⟩)) G3 u') := Lib.hid (fun u h => aw_turn h awG3 (by decide) [97] (by decide) [[99]] (by decide) (by decide) rfl aw7)
  have S1 : Hid (∀ (u u2 : World) (sa : Option Addr) (sc : Nat), Reads (fun c => u2.heap.size ≤ c ∧ c < u.heap.size) u (.slice sa 3 sc) (strs [[97], [98], [99]]) → Calls Try.prog 22 #[.slice sa 3 sc, .slice (some ⟨u.heap.size, 0, none⟩) 3 3] (u.alloc (.cells #[.string ⟨#[97]⟩, .string ⟨#[98]⟩, .string ⟨#[99]⟩] 9)) fun e w' => e = .returned (.bool true) ∧ Below (u.alloc (.cells #[.string ⟨#[97]⟩, .string ⟨#[98]⟩, .string ⟨#[99]⟩] 9)).heap.size (u.alloc (.cells #[.string ⟨#[97]⟩, .string ⟨#[98]⟩, .string ⟨#[99]⟩] 9)) w') := Lib.hid (fun u u2 sa sc hr => by
    have hal := (Below.refl u.heap.size u).alloc (Nat.le_refl _) (.cells #[.string ⟨#[97]⟩, .string ⟨#[98]⟩, .string ⟨#[99]⟩] 9)
    exact refSame_any ((hr.keep fun c hc hl => hal.block c hl).mono fun c hc => Nat.lt_of_lt_of_le hc.2 hal.size) ((aw_read (S := fun _ => False) (fun _ h => h.elim) [[97], [98], [99]] (by decide) rfl).mono fun c hc => hc.2))
  have S2 : Hid (∀ (u u2 : World) (sa : Option Addr) (sc : Nat), Reads (fun c => u2.heap.size ≤ c ∧ c < u.heap.size) u (.slice sa 2 sc) (strs [[98], [99]]) → Calls Try.prog 22 #[.slice sa 2 sc, .slice (some ⟨u.heap.size, 0, none⟩) 2 2] (u.alloc (.cells #[.string ⟨#[98]⟩, .string ⟨#[99]⟩] 9)) fun e w' => e = .returned (.bool true) ∧ Below (u.alloc (.cells #[.string ⟨#[98]⟩, .string ⟨#[99]⟩] 9)).heap.size (u.alloc (.cells #[.string ⟨#[98]⟩, .string ⟨#[99]⟩] 9)) w') := Lib.hid (fun u u2 sa sc hr => by
    have hal := (Below.refl u.heap.size u).alloc (Nat.le_refl _) (.cells #[.string ⟨#[98]⟩, .string ⟨#[99]⟩] 9)
    exact refSame_any ((hr.keep fun c hc hl => hal.block c hl).mono fun c hc => Nat.lt_of_lt_of_le hc.2 hal.size) ((aw_read (S := fun _ => False) (fun _ h => h.elim) [[98], [99]] (by decide) rfl).mono fun c hc => hc.2))
  go_wp2_with (first
    | (go_at_call 21; (with_reducible refine (A4.out _ HW4.out).mono ?_); rintro e w5 ⟨sa, sc, rfl, hr5, hb5⟩; have HR5 := Lib.hid hr5; have HW5 := Lib.hid (HW4.out.below hb5); clear hr5 hb5)
    | (go_at_call 22; (with_reducible refine (S1.out _ _ _ _ HR5.out).mono ?_); rintro e w6 ⟨rfl, hb6⟩; have HW6 := Lib.hid ((HW5.out.below ((Below.refl w5.heap.size w5).alloc (Nat.le_refl _) (.cells #[.string ⟨#[97]⟩, .string ⟨#[98]⟩, .string ⟨#[99]⟩] 9))).below hb6); clear hb6)
    | (go_at_call 19; (with_reducible refine (A5.out _ HW6.out).mono ?_); rintro e w7 ⟨sa2, sc2, rfl, hr7, hb7⟩; have HR7 := Lib.hid hr7; have HW7 := Lib.hid (HW6.out.below hb7); clear hr7 hb7)
    | (go_at_call 22; (with_reducible refine (S2.out _ _ _ _ HR7.out).mono ?_); rintro e w8 ⟨rfl, hb8⟩; have HW8 := Lib.hid ((HW7.out.below ((Below.refl w7.heap.size w7).alloc (Nat.le_refl _) (.cells #[.string ⟨#[98]⟩, .string ⟨#[99]⟩] 9))).below hb8); clear hb8)
    | (go_at_call 15; (with_reducible refine (A6.out _ HW8.out).mono ?_); rintro e w9 ⟨rfl, hw9⟩; have HW9 := Lib.hid hw9; clear hw9)
    | (go_at_call 16; (with_reducible refine (A7.out _ HW9.out).mono ?_); rintro e w10 ⟨rfl, hw10⟩; have HW10 := Lib.hid hw10; clear hw10))
  go_ret
  exact ⟨NR.ret_bool rfl, HW10.out.end_⟩
end Go.Proofs.Ytijcojidfallkaa.GP
