/-
  What every right program does at a gate that is not bound, and at no page. Nothing here is a statement of the seed.
-/
import Derived.Test.YtihcellcdkhadaaGreatHartEq
import Derived.Test.YtihcellcdkhadaaGreatHartStepN
import Derived.Deep.RegionHeld3
set_option linter.unusedSimpArgs false
set_option linter.unusedVariables false
namespace Go.Proofs.YtihcellcdkhadaaGreat.HF
open Go.RowKit PM PR PF MM MR MF HM HR
set_option maxHeartbeats 4000000
set_option maxRecDepth 10000
theorem aw_s1 : stepR ⟨5, fun _ => 0, [], 0, 0, 5⟩ (newM 1) 3 = ⟨⟨5, fun _ => 0, [], 0, 3, 5⟩, newM 1, true, false, 0, 0⟩ := rfl
theorem aw_s2 : stepR ⟨70, fun _ => 0, [], 0, 0, 0⟩ (newM 1) 3 = ⟨⟨70, fun _ => 0, [], 2, 0, 0⟩, newM 1, false, false, 0, 0⟩ := rfl
theorem newM1_wok : WOk (newM 1) := ⟨fun _ => b32_zero, fun x hx => by
  have : x ∈ List.replicate 16 (0 : Int) := hx
  rw [List.mem_replicate] at this
  rw [this.2]
  exact b32_zero⟩
theorem b32_small {x : Int} (h : 0 ≤ x ∧ x ≤ 100) : B32 x := by unfold B32; omega
theorem hok0 {pc home : Int} (h1 : B32 pc) (h2 : B32 home) : HOk ⟨pc, fun _ => 0, [], 0, 0, home⟩ := ⟨h1, fun _ => b32_zero, fun x hx => (by cases hx), h2⟩
/-- a hart's cells -/
abbrev HC (b : Nat) (pc r0 r1 r2 r3 r4 r5 r6 r7 : Int) (a : Option Addr) (n c : Nat) (why ep home : Int) (w : World) : Prop := w.cell? ⟨b, 0, none⟩ = some (.int .u32 pc) ∧ w.cell? ⟨b, 1, none⟩ = some (.int .u32 r0) ∧ w.cell? ⟨b, 2, none⟩ = some (.int .u32 r1) ∧ w.cell? ⟨b, 3, none⟩ = some (.int .u32 r2) ∧ w.cell? ⟨b, 4, none⟩ = some (.int .u32 r3) ∧ w.cell? ⟨b, 5, none⟩ = some (.int .u32 r4) ∧ w.cell? ⟨b, 6, none⟩ = some (.int .u32 r5) ∧ w.cell? ⟨b, 7, none⟩ = some (.int .u32 r6) ∧ w.cell? ⟨b, 8, none⟩ = some (.int .u32 r7) ∧ w.cell? ⟨b, 9, none⟩ = some (.slice a n c) ∧ w.cell? ⟨b, 10, none⟩ = some (.int .u8 why) ∧ w.cell? ⟨b, 11, none⟩ = some (.int .u64 ep) ∧ w.cell? ⟨b, 12, none⟩ = some (.int .u32 home)
/-- an own stack is a row that is read -/
theorem Sk.reads {w : World} {B : Nat} {a : Option Addr} {n c : Nat} {l : List Int} (h : Sk w B a n c l) : Rs w.heap.size w a n c l := by
  have := (Reads.of_owns h).there
  exact this.mono fun g hg => hg.2
theorem Sk.bytes {w : World} {B : Nat} {a : Option Addr} {n c : Nat} {l : List Int} (h : Sk w B a n c l) (hl : l.length ≤ 1000) : n * 4 ≤ 140737488355328 := by have := h.len; omega
theorem Does.below {B0 : Nat} {w0 w w' : World} {B p t g gw : Nat} {r : Res} {e : Ending} (h : Does B p t g gw none 0 0 r w e w') (hb : Below B0 w0 w) (h0 : B0 ≤ w.heap.size) (hp : B0 ≤ p) (hg : B0 ≤ g) (hgw : B0 ≤ gw) : Below B0 w0 w' :=
  PR.Below.fr hb h.low h0 (by rintro i (rfl | rfl | rfl) <;> assumption)
theorem Reads.nil_any {G G' : Nat → Prop} {w w' : World} {v : Value} (h : Reads G w v []) : Reads G' w' v [] := by
  obtain ⟨a, cap, e, h1, h2, h3, _⟩ := h
  exact ⟨a, cap, e, h1, h2, h3, Or.inl rfl⟩
theorem cell_go {u v : World} {p : Addr} {x : Value} (hb : Below u.heap.size u v) (h : u.cell? p = some x) : v.cell? p = some x := (hb.cell (World.block_lt_of_cell? u p h)).trans h
theorem hc_go {u v : World} {b : Nat} {pc r0 r1 r2 r3 r4 r5 r6 r7 : Int} {a : Option Addr} {n c : Nat} {why ep home : Int} (h : HC b pc r0 r1 r2 r3 r4 r5 r6 r7 a n c why ep home u) (hb : Below u.heap.size u v) : HC b pc r0 r1 r2 r3 r4 r5 r6 r7 a n c why ep home v := by
  obtain ⟨c0, c1, c2, c3, c4, c5, c6, c7, c8, c9, c10, c11, c12⟩ := h
  exact ⟨cell_go hb c0, cell_go hb c1, cell_go hb c2, cell_go hb c3, cell_go hb c4, cell_go hb c5, cell_go hb c6, cell_go hb c7, cell_go hb c8, cell_go hb c9, cell_go hb c10, cell_go hb c11, cell_go hb c12⟩
abbrev AwS (b1 b2 : Nat) (a1 : Option Addr) (n1 d1 : Nat) (a2 : Option Addr) (n2 d2 : Nat) (u : World) : Prop := HC b1 5 0 0 0 0 0 0 0 0 a1 n1 d1 0 3 5 u ∧ u.cell? ⟨b1 + 1, 0, none⟩ = some (.bool true) ∧ HC b2 70 0 0 0 0 0 0 0 0 a2 n2 d2 2 0 0 u
theorem AwS.go {b1 b2 : Nat} {a1 : Option Addr} {n1 d1 : Nat} {a2 : Option Addr} {n2 d2 : Nat} {u v : World} (h : AwS b1 b2 a1 n1 d1 a2 n2 d2 u) (hb : Below u.heap.size u v) : AwS b1 b2 a1 n1 d1 a2 n2 d2 v := ⟨hc_go h.1 hb, cell_go hb h.2.1, hc_go h.2.2 hb⟩
theorem hn_facts (w : World) (ca cn : Array Value) : Below w.heap.size w ((w.alloc (.cells ca 30)).alloc (.cells cn 41)) ∧ Whole ((w.alloc (.cells ca 30)).alloc (.cells cn 41)) w.heap.size 30 ca ∧ Whole ((w.alloc (.cells ca 30)).alloc (.cells cn 41)) (w.heap.size + 1) 41 cn := by
  refine ⟨bl2 .., (Whole.new w _ _).alloc _, ?_⟩
  have := Whole.new (w.alloc (.cells ca 30)) 41 cn
  simpa using this
theorem awake_any (w : World) : Calls Tryz.prog 12 #[] w fun e w' => e = .returned (.bool true) ∧ Below w.heap.size w w' := by
  have CN := Lib.hid (newP_any 1 w)
  rw [show (min (max (1 : Int) 0) 256).toNat = 1 from rfl] at CN
  have CH := Lib.hid (new_any 5)
  have S1 := Lib.hid (fun (p t g gw : Nat) (u : World) (h : Pm u p t g gw (newM 1)) => step_any (h := ⟨5, fun _ => 0, [], 0, 0, 5⟩) h (Reads.nil (fun _ => False) u) (by omega) (hok0 (b32_small (by omega)) (b32_small (by omega))) newM1_wok 3)
  rw [aw_s1] at S1
  have S2 := Lib.hid (fun (p t g gw : Nat) (u : World) (h : Pm u p t g gw (newM 1)) => step_any (h := ⟨70, fun _ => 0, [], 0, 0, 0⟩) h (Reads.nil (fun _ => False) u) (by omega) (hok0 (b32_small (by omega)) (b32_small (by omega))) newM1_wok 3)
  rw [aw_s2] at S2
  generalize newM 1 = M at *
  go_enter Tryz.func12, Tryz.ntmps12
  go_wp2_with fail
  (go_at_call 14; (with_reducible refine CN.out.mono ?_); rintro e w1 ⟨p, t, g, gw, rfl, hT, hp, ht, hg, hgw, hb⟩; have H1 := Lib.hid hT; have B1 := Lib.hid hb; clear hT hb)
  go_wp2_with fail
  (go_at_call 48; (with_reducible refine (CH.out.at _).mono ?_); rintro e w2 ⟨rfl, hb⟩; have H2 := Lib.hid (H1.out.belowS hb); have B2 := Lib.hid (below_of B1.out hb); clear hb)
  go_wp2_with fail
  (go_at_call 8; (with_reducible refine (S1.out p t g gw _ H2.out).mono ?_); intro e w3 hD; have B3 := Lib.hid (hD.below B2.out B2.out.size hp hg hgw); obtain ⟨a1, n1, d1, rfl, sk, pm, hf⟩ := hD; have H3 := Lib.hid pm; have K3 := Lib.hid sk; clear sk pm hf)
  go_upto_region 3 with fail
  obtain ⟨T0, T1, T2⟩ := hn_facts w3 (hCs 5 (fun _ => 0) a1 n1 d1 0 3 5) (nCs true false 0 0)
  have H4 := Lib.hid (H3.out.belowS T0)
  have K4 := Lib.hid (K3.out.belowS T0)
  have B4 := Lib.hid (B3.out.trans (T0.mono B3.out.size))
  have TT := Lib.hid (And.intro T1 T2)
  have HLT := Lib.hid H3.out.lt
  clear T0 T1 T2
  generalize ((w3.alloc _).alloc _) = w4 at *
  go_wp2_with (go_at_call 8; (with_reducible refine (S2.out p t g gw _ H4.out).mono ?_); intro e w5 hD; have B5 := Lib.hid (hD.below B4.out B4.out.size hp hg hgw); have F5 := Lib.hid hD.low; obtain ⟨a2, n2, d2, rfl, sk, pm, hf⟩ := hD; clear sk pm hf)
  obtain ⟨T0, T1, T2⟩ := hn_facts w5 (hCs 70 (fun _ => 0) a2 n2 d2 2 0 0) (nCs false false 0 0)
  obtain ⟨l1, l2, l3, l4⟩ := HLT.out
  have Y1 := (TT.out.1.fr F5.out (by rintro (e | e | e) <;> omega)).belowS T0
  have Y2 := (TT.out.2.fr F5.out (by rintro (e | e | e) <;> omega)).belowS T0
  have SX : AwS w3.heap.size w5.heap.size a1 n1 d1 a2 n2 d2 ((w5.alloc (.cells (hCs 70 (fun _ => 0) a2 n2 d2 2 0 0) 30)).alloc (.cells (nCs false false 0 0) 41)).drew := ⟨hart_cells Y1, Y2.cell 0, hart_cells T1⟩
  have hbd : Below w.heap.size w ((w5.alloc (.cells (hCs 70 (fun _ => 0) a2 n2 d2 2 0 0) 30)).alloc (.cells (nCs false false 0 0) 41)).drew := (B5.out.trans (T0.mono B5.out.size)).drew
  have RN : Hid (∀ G u, Reads G u (.slice a1 n1 d1) (wcs [])) := Lib.hid fun G u => (Reads.of_owns K3.out).nil_any
  have hn1 : n1 = 0 := by have := K3.out.len; simpa using this.symm
  have CP := Lib.hid (fun u => copy_any (RN.out (fun _ => True) u) (by omega) 5 (fun _ => 0) 0 3 5)
  have CS := Lib.hid (fun (u : World) (a3 : Option Addr) (c3 : Nat) (h : Rs u.heap.size u a3 n1 c3 []) => sameH_any 5 (fun _ => 0) 0 3 5 5 (fun _ => 0) 0 3 5 (RN.out _ u) h)
  rw [show decide (One 5 (fun _ => 0) [] 0 3 5 5 (fun _ => 0) [] 0 3 5) = true from decide_eq_true ⟨rfl, rfl, rfl, rfl, rfl, rfl⟩] at CS
  have HBD := Lib.hid hbd
  clear T0 T1 T2 Y1 Y2 TT hbd F5 H1 H2 H3 H4 K3 K4 B1 B2 B3 B4 B5 S1 S2 CN CH hn1 HLT l1 l2 l3 l4
  generalize w3.heap.size = b1 at *
  generalize w5.heap.size = b2 at *
  generalize ((w5.alloc _).alloc _) = w6 at *
  go_region_held3 (fun u => AwS b1 b2 a1 n1 d1 a2 n2 d2 u)
    (first | with_reducible exact SX | with_reducible exact S7 | with_reducible exact S8)
    (first | (go_at_call 27; (with_reducible refine (CP.out _).mono ?_); rintro e w7 ⟨a3, c3, rfl, sk, hb⟩; have S7 := AwS.go SX hb; have K7 := Lib.hid sk.reads; have B7 := Lib.hid (below_of HBD.out hb); clear sk hb) | (go_at_call 13; (with_reducible refine (CS.out _ _ _ K7.out).mono ?_); rintro e w8 ⟨rfl, hb⟩; have S8 := AwS.go S7 hb; have B8 := Lib.hid (below_of B7.out hb); clear hb))
  rename_i hHeld
  clear hHeld
  go_wp2_with fail
  go_ret
  exact ⟨rfl, B8.out⟩
end Go.Proofs.YtihcellcdkhadaaGreat.HF
