/-
  The reference's step: its boxes, its results. Nothing here is a statement of the seed.
-/
import Derived.Test.YtihcellcdkhadaaGreatHartRef
import Derived.Test.YtihcellcdkhadaaGreatHartDo
import Derived.Test.YtihcellcdkhadaaGreatHartAwake
import Derived.Test.YtihcellcdkhadaaGreatMemD
set_option linter.unusedSimpArgs false
set_option linter.unusedVariables false
namespace Go.Proofs.YtihcellcdkhadaaGreat.HF
open Go.RowKit PM PR PF MM MR MF HM HR
set_option maxHeartbeats 4000000
set_option maxRecDepth 10000
/-- the five boxes of a reference's step -/
abbrev w5 (w : World) (ch cm : Array Value) : World := ((((w.alloc (.cells ch 30)).alloc (.cells cm 36)).alloc (.cells hZ 30)).alloc (.cells zCs 36)).alloc (.cells nZ 44)
theorem w5_facts (w : World) (ch cm : Array Value) : Below w.heap.size w (w5 w ch cm) ∧ (w5 w ch cm).heap.size = w.heap.size + 1 + 1 + 1 + 1 + 1 ∧ Whole (w5 w ch cm) w.heap.size 30 ch ∧ Whole (w5 w ch cm) (w.heap.size + 1) 36 cm ∧
    Whole (w5 w ch cm) (w.heap.size + 1 + 1) 30 hZ ∧ Whole (w5 w ch cm) (w.heap.size + 1 + 1 + 1) 36 zCs ∧ Whole (w5 w ch cm) (w.heap.size + 1 + 1 + 1 + 1) 44 nZ := by
  refine ⟨((bl3 w _ _ _).alloc (by simp only [World.size_alloc]; omega) _).alloc (by simp only [World.size_alloc]; omega) _, by simp only [World.size_alloc], ((((Whole.new w _ _).alloc _).alloc _).alloc _).alloc _, ?_, ?_, ?_, ?_⟩
  · have := (((Whole.new (w.alloc (.cells ch 30)) 36 cm).alloc (.cells hZ 30)).alloc (.cells zCs 36)).alloc (.cells nZ 44)
    simpa only [World.size_alloc] using this
  · have := ((Whole.new ((w.alloc (.cells ch 30)).alloc (.cells cm 36)) 30 hZ).alloc (.cells zCs 36)).alloc (.cells nZ 44)
    simpa only [World.size_alloc] using this
  · have := (Whole.new (((w.alloc (.cells ch 30)).alloc (.cells cm 36)).alloc (.cells hZ 30)) 36 zCs).alloc (.cells nZ 44)
    simpa only [World.size_alloc] using this
  · have := Whole.new ((((w.alloc (.cells ch 30)).alloc (.cells cm 36)).alloc (.cells hZ 30)).alloc (.cells zCs 36)) 44 nZ
    simpa only [World.size_alloc] using this
/-- what is read of the two boxes -/
abbrev RS (b : Nat) (pc r0 r1 r2 r3 r4 r5 r6 r7 : Int) (a : Option Addr) (n c : Nat) (why ep home : Int) (G : Nat → Int) (gr N C gw m d : Nat) (u : World) : Prop := HC b pc r0 r1 r2 r3 r4 r5 r6 r7 a n c why ep home u ∧ RT (b + 1) G gr N C gw m d u
theorem cell_fr {S : Nat → Prop} {u v : World} {p : Addr} {x : Value} (hf : Fr S u v) (h : u.cell? p = some x) (hS : ¬ S p.block) : v.cell? p = some x := by
  rw [World.cell?_of_block (w := u) (a := p) (hf.block p.block (World.block_lt_of_cell? u p h) hS)]
  exact h
theorem hc_fr {S : Nat → Prop} {u v : World} {b : Nat} {pc r0 r1 r2 r3 r4 r5 r6 r7 : Int} {a : Option Addr} {n c : Nat} {why ep home : Int} (hf : Fr S u v) (h : HC b pc r0 r1 r2 r3 r4 r5 r6 r7 a n c why ep home u) (hS : ¬ S b) : HC b pc r0 r1 r2 r3 r4 r5 r6 r7 a n c why ep home v := by
  obtain ⟨c0, c1, c2, c3, c4, c5, c6, c7, c8, c9, c10, c11, c12⟩ := h
  exact ⟨cell_fr hf c0 hS, cell_fr hf c1 hS, cell_fr hf c2 hS, cell_fr hf c3 hS, cell_fr hf c4 hS, cell_fr hf c5 hS, cell_fr hf c6 hS, cell_fr hf c7 hS, cell_fr hf c8 hS, cell_fr hf c9 hS, cell_fr hf c10 hS, cell_fr hf c11 hS, cell_fr hf c12 hS⟩
theorem rt_fr {S : Nat → Prop} {u v : World} {b : Nat} {G : Nat → Int} {gr N C gw m d : Nat} (hf : Fr S u v) (h : RT b G gr N C gw m d u) (hS : ¬ S b) : RT b G gr N C gw m d v := by
  obtain ⟨c0, c1, c2, c3, c4, c5, c6, c7, c8, c9⟩ := h
  exact ⟨cell_fr hf c0 hS, cell_fr hf c1 hS, cell_fr hf c2 hS, cell_fr hf c3 hS, cell_fr hf c4 hS, cell_fr hf c5 hS, cell_fr hf c6 hS, cell_fr hf c7 hS, cell_fr hf c8 hS, cell_fr hf c9 hS⟩
theorem rs_fr {S : Nat → Prop} {u v : World} {b : Nat} {pc r0 r1 r2 r3 r4 r5 r6 r7 : Int} {a : Option Addr} {n c : Nat} {why ep home : Int} {G : Nat → Int} {gr N C gw m d : Nat} (hf : Fr S u v) (h : RS b pc r0 r1 r2 r3 r4 r5 r6 r7 a n c why ep home G gr N C gw m d u) (h1 : ¬ S b) (h2 : ¬ S (b + 1)) : RS b pc r0 r1 r2 r3 r4 r5 r6 r7 a n c why ep home G gr N C gw m d v := ⟨hc_fr hf h.1 h1, rt_fr hf h.2 h2⟩
/-- the three boxes of the results -/
structure RE (u : World) (b : Nat) : Prop where
  h : ∃ cs, Whole u (b + 1 + 1) 30 cs ∧ cs.size = 13
  m : ∃ cs, Whole u (b + 1 + 1 + 1) 36 cs ∧ cs.size = 10
  n : ∃ cs, Whole u (b + 1 + 1 + 1 + 1) 44 cs ∧ cs.size = 4
theorem RE.fr {S : Nat → Prop} {u v : World} {b : Nat} (E : RE u b) (hf : Fr S u v) (h1 : ¬ S (b + 1 + 1)) (h2 : ¬ S (b + 1 + 1 + 1)) (h3 : ¬ S (b + 1 + 1 + 1 + 1)) : RE v b := by
  obtain ⟨⟨c1, x1, s1⟩, ⟨c2, x2, s2⟩, ⟨c3, x3, s3⟩⟩ := E
  exact ⟨⟨c1, x1.fr hf h1, s1⟩, ⟨c2, x2.fr hf h2, s2⟩, ⟨c3, x3.fr hf h3, s3⟩⟩
theorem RE.belowS {u v : World} {b : Nat} (E : RE u b) (hb : Below u.heap.size u v) : RE v b := E.fr (S := fun _ => False) (Fr.of_below hb) (fun h => h) (fun h => h) (fun h => h)
/-- all three laid -/
abbrev end3 (u : World) (b : Nat) (pc r0 r1 r2 r3 r4 r5 r6 r7 : Int) (a : Option Addr) (n c : Nat) (why ep home : Int) (G : Nat → Int) (gr N C gw m d : Nat) (sf st : Bool) (y x : Int) : World := putN (putB (putH u (b + 1 + 1) pc r0 r1 r2 r3 r4 r5 r6 r7 a n c why ep home) (b + 1 + 1 + 1) G gr N C gw m d) (b + 1 + 1 + 1 + 1) sf st y x
theorem end3_fr (u : World) (b : Nat) (pc r0 r1 r2 r3 r4 r5 r6 r7 : Int) (a : Option Addr) (n c : Nat) (why ep home : Int) (G : Nat → Int) (gr N C gw m d : Nat) (sf st : Bool) (y x : Int) : Fr (fun i => i = b + 1 + 1 ∨ i = b + 1 + 1 + 1 ∨ i = b + 1 + 1 + 1 + 1) u (end3 u b pc r0 r1 r2 r3 r4 r5 r6 r7 a n c why ep home G gr N C gw m d sf st y x) :=
  (((putH_fr u (b + 1 + 1) pc r0 r1 r2 r3 r4 r5 r6 r7 a n c why ep home).mono (S' := fun i => i = b + 1 + 1 ∨ i = b + 1 + 1 + 1 ∨ i = b + 1 + 1 + 1 + 1) (fun i h => Or.inl (Or.inl h))).trans (putB_fr _ (b + 1 + 1 + 1) G gr N C gw m d) (fun i h => Or.inl (Or.inr (Or.inl h)))).trans (putN_fr _ (b + 1 + 1 + 1 + 1) sf st y x) (fun i h => Or.inl (Or.inr (Or.inr h)))
theorem RE.wholes {u : World} {b : Nat} (E : RE u b) (pc r0 r1 r2 r3 r4 r5 r6 r7 : Int) (a : Option Addr) (n c : Nat) (why ep home : Int) (G : Nat → Int) (gr N C gw m d : Nat) (sf st : Bool) (y x : Int) :
    Whole (end3 u b pc r0 r1 r2 r3 r4 r5 r6 r7 a n c why ep home G gr N C gw m d sf st y x) (b + 1 + 1) 30 (c8 pc r0 r1 r2 r3 r4 r5 r6 r7 a n c why ep home) ∧ Whole (end3 u b pc r0 r1 r2 r3 r4 r5 r6 r7 a n c why ep home G gr N C gw m d sf st y x) (b + 1 + 1 + 1) 36 (rCs G gr N C gw m d) ∧ Whole (end3 u b pc r0 r1 r2 r3 r4 r5 r6 r7 a n c why ep home G gr N C gw m d sf st y x) (b + 1 + 1 + 1 + 1) 44 (nCs sf st y x) := by
  obtain ⟨⟨c1, x1, s1⟩, ⟨c2, x2, s2⟩, ⟨c3, x3, s3⟩⟩ := E
  refine ⟨?_, ?_, ?_⟩
  · exact ((putH_whole x1 s1 pc r0 r1 r2 r3 r4 r5 r6 r7 a n c why ep home).fr (putB_fr _ _ ..) (by show ¬ b + 1 + 1 = b + 1 + 1 + 1; omega)).fr (putN_fr _ _ ..) (by show ¬ b + 1 + 1 = b + 1 + 1 + 1 + 1; omega)
  · exact (putB_whole (x2.fr (putH_fr _ _ ..) (by show ¬ b + 1 + 1 + 1 = b + 1 + 1; omega)) s2 G gr N C gw m d).fr (putN_fr _ _ ..) (by show ¬ b + 1 + 1 + 1 = b + 1 + 1 + 1 + 1; omega)
  · exact putN_whole ((x3.fr (putH_fr _ _ ..) (by show ¬ b + 1 + 1 + 1 + 1 = b + 1 + 1; omega)).fr (putB_fr _ _ ..) (by show ¬ b + 1 + 1 + 1 + 1 = b + 1 + 1 + 1; omega)) s3 sf st y x
/-- stores of a whole memory, of the reference's note: one step each -/
theorem ws_B {op : Oper} {a : Act} {w : World} {K : Act → World → Prop} {Q : Exit → Act → World → Prop} {x y : Operand} (ho : op.op = .store 36 x y) (hd : op.dst = none) {b : Nat} {cs : Array Value} (hW : Whole w b 36 cs) (hs : cs.size = 10) {G : Nat → Int} {gr N C gw m d : Nat} (hx : a.eval x = .pointer (some ⟨b, 0, none⟩)) (hy : a.eval y = rV G gr N C gw m d) (h : K a (putB w b G gr N C gw m d)) : op.wp Tryz.prog a w K Q := by
  refine wp_store_mid _ x y ho b 0 _ hx hy (fun j hj => ?_) infoMem (by simp [Value.oneCell']) ?_
  · have hj' : j < cs.size := by rw [hs]; exact hj
    exact ⟨by rw [hW.cell, Nat.zero_add, Array.getElem?_eq_getElem hj']; rfl, hW.frozen _⟩
  · rw [hd]; exact h
theorem ws_M {op : Oper} {a : Act} {w : World} {K : Act → World → Prop} {Q : Exit → Act → World → Prop} {x y : Operand} (ho : op.op = .store 44 x y) (hd : op.dst = none) {b : Nat} {cs : Array Value} (hW : Whole w b 44 cs) (hs : cs.size = 4) {sf st : Bool} {p q : Int} (hx : a.eval x = .pointer (some ⟨b, 0, none⟩)) (hy : a.eval y = nV sf st p q) (h : K a (putN w b sf st p q)) : op.wp Tryz.prog a w K Q := by
  refine wp_store_mid _ x y ho b 0 _ hx hy (fun j hj => ?_) infoNR (by simp [Value.oneCell']) ?_
  · have hj' : j < cs.size := by rw [hs]; exact hj
    exact ⟨by rw [hW.cell, Nat.zero_add, Array.getElem?_eq_getElem hj']; rfl, hW.frozen _⟩
  · rw [hd]; exact h
/-- what a reference's step does -/
def RDid (r : Res) (gr C gw : Nat) (w : World) (e : Ending) (w' : World) : Prop :=
  ∃ a' n' c' gw' d', e = .returned (.tuple #[hV r.h.pc r.h.r a' n' c' r.h.why r.h.ep r.h.home, rV r.m.gt gr r.m.pg.length C gw' r.m.ws.length d', nV r.sf r.st r.nt r.nx]) ∧ Sk w' w.heap.size a' n' c' r.h.sk ∧ Rm w' gr C gw' d' r.m ∧ (gw' = gw ∨ w.heap.size ≤ gw') ∧ Below w.heap.size w w'
theorem rdid_end {w u : World} {gr C gw gw' d' : Nat} {a' : Option Addr} {n' c' : Nat} {r : Res} (E : RE u w.heap.size) (sk : Sk u w.heap.size a' n' c' r.h.sk) (rm : Rm u gr C gw' d' r.m) (hgr : gr < w.heap.size) (hgw : gw' = gw ∧ gw < w.heap.size ∨ w.heap.size + 1 + 1 + 1 + 1 + 1 ≤ gw') (hb : Below w.heap.size w u) :
    RDid r gr C gw w (.returned (.tuple #[hV r.h.pc r.h.r a' n' c' r.h.why r.h.ep r.h.home, rV r.m.gt gr r.m.pg.length C gw' r.m.ws.length d', nV r.sf r.st r.nt r.nx]))
      (end3 u w.heap.size r.h.pc (r.h.r 0) (r.h.r 1) (r.h.r 2) (r.h.r 3) (r.h.r 4) (r.h.r 5) (r.h.r 6) (r.h.r 7) a' n' c' r.h.why r.h.ep r.h.home r.m.gt gr r.m.pg.length C gw' r.m.ws.length d' r.sf r.st r.nt r.nx) := by
  obtain ⟨⟨c1, x1, s1⟩, ⟨c2, x2, s2⟩, ⟨c3, x3, s3⟩⟩ := E
  have n1 := sk.ne_ x1 (by decide)
  have n2 := sk.ne_ x2 (by decide)
  have n3 := sk.ne_ x3 (by decide)
  have F := end3_fr u w.heap.size r.h.pc (r.h.r 0) (r.h.r 1) (r.h.r 2) (r.h.r 3) (r.h.r 4) (r.h.r 5) (r.h.r 6) (r.h.r 7) a' n' c' r.h.why r.h.ep r.h.home r.m.gt gr r.m.pg.length C gw' r.m.ws.length d' r.sf r.st r.nt r.nx
  exact ⟨a', n', c', gw', d', rfl, sk.fr F (fun k hk => by rintro (rfl | rfl | rfl); exact n1 hk; exact n2 hk; exact n3 hk), rm.fr F (by omega) (by omega), by omega, PR.Below.fr hb F hb.size (by rintro i (rfl | rfl | rfl) <;> omega)⟩
/-- the hart in its box, the memory in its own, the results' boxes -/
structure RG (w : World) (gr C gw d : Nat) (M : Mm) (a : Option Addr) (n c : Nat) (h : Ht) (v : World) : Prop where
  sk : Sk v w.heap.size a n c h.sk
  rm : Rm v gr C gw d M
  E : RE v w.heap.size
  X : Whole v w.heap.size 30 (hCs h.pc h.r a n c h.why h.ep h.home)
  Y : Whole v (w.heap.size + 1) 36 (rCs M.gt gr M.pg.length C gw M.ws.length d)
  B : Below w.heap.size w v
  low : gr < w.heap.size ∧ gw < w.heap.size
section
variable {w v v' : World} {gr C gw d : Nat} {M : Mm} {a : Option Addr} {n c : Nat} {h : Ht}
theorem RG.lt (g : RG w gr C gw d M a n c h v) : w.heap.size + 1 + 1 + 1 + 1 < v.heap.size := by
  obtain ⟨c3, x3, s3⟩ := g.E.n
  exact x3.lt
theorem RG.belowS (g : RG w gr C gw d M a n c h v) (hb : Below v.heap.size v v') : RG w gr C gw d M a n c h v' :=
  ⟨g.sk.belowS hb, g.rm.belowS hb, g.E.belowS hb, g.X.belowS hb, g.Y.belowS hb, g.B.trans (hb.mono g.B.size), g.low⟩
theorem RG.drew (g : RG w gr C gw d M a n c h v) : RG w gr C gw d M a n c h v.drew := g.belowS (Below.refl _ _).drew
theorem RG.fr (g : RG w gr C gw d M a n c h v) {S : Nat → Prop} (hf : Fr S v v') (hS : ∀ i, S i → v.heap.size ≤ i) : RG w gr C gw d M a n c h v' := g.belowS (hf.below (Nat.le_refl _) hS)
theorem RG.rs (g : RG w gr C gw d M a n c h v) : RS w.heap.size h.pc (h.r 0) (h.r 1) (h.r 2) (h.r 3) (h.r 4) (h.r 5) (h.r 6) (h.r 7) a n c h.why h.ep h.home M.gt gr M.pg.length C gw M.ws.length d v := ⟨hart_cells g.X, box_cells g.Y⟩
/-- a cell of the hart's box turned -/
theorem RG.turn (g : RG w gr C gw d M a n c h v) (tq : Int) : RG w gr C gw d M a n c ⟨tq, h.r, h.sk, h.why, h.ep, h.home⟩ (v.setCell ⟨w.heap.size, 0, none⟩ (.int .u32 tq)) := by
  have F : Fr (fun i => i = w.heap.size) v (v.setCell ⟨w.heap.size, 0, none⟩ (.int .u32 tq)) := (Fr.refl (fun i => i = w.heap.size) v).set (p := ⟨w.heap.size, 0, none⟩) (Or.inl rfl) _
  have hl := g.low
  refine ⟨g.sk.fr F (fun k hk e => g.sk.ne_ g.X (by decide) (by rw [hk, e])), g.rm.fr F (by omega) (by omega), g.E.fr F (by omega) (by omega) (by omega), ?_, g.Y.fr F (by omega), PR.Below.fr g.B F g.B.size (by rintro i rfl; omega), g.low⟩
  exact g.X.set_ 0 (.int .u32 tq)
/-- the results laid -/
theorem RG.fin (g : RG w gr C gw d M a n c h v) {r : Res} (hsk : r.h.sk = h.sk) {gw' d' : Nat} (rm : Rm v gr C gw' d' r.m) (hgw : gw' = gw ∨ w.heap.size + 1 + 1 + 1 + 1 + 1 ≤ gw') :
    RDid r gr C gw w (.returned (.tuple #[hV r.h.pc r.h.r a n c r.h.why r.h.ep r.h.home, rV r.m.gt gr r.m.pg.length C gw' r.m.ws.length d', nV r.sf r.st r.nt r.nx]))
      (end3 v w.heap.size r.h.pc (r.h.r 0) (r.h.r 1) (r.h.r 2) (r.h.r 3) (r.h.r 4) (r.h.r 5) (r.h.r 6) (r.h.r 7) a n c r.h.why r.h.ep r.h.home r.m.gt gr r.m.pg.length C gw' r.m.ws.length d' r.sf r.st r.nt r.nx) :=
  rdid_end g.E (hsk ▸ g.sk) rm g.low.1 (hgw.imp (fun e => ⟨e, g.low.2⟩) id) g.B
end
/-- the box of the instruction -/
abbrev IC (b : Nat) (o d x y m : Int) (u : World) : Prop := u.cell? ⟨b, 0, none⟩ = some (.int .u8 o) ∧ u.cell? ⟨b, 1, none⟩ = some (.int .u8 d) ∧ u.cell? ⟨b, 2, none⟩ = some (.int .u8 x) ∧ u.cell? ⟨b, 3, none⟩ = some (.int .u8 y) ∧ u.cell? ⟨b, 4, none⟩ = some (.int .i32 m)
theorem ic_of {w : World} {b : Nat} {o d x y m : Int} (h : Whole w b 76 #[.int .u8 o, .int .u8 d, .int .u8 x, .int .u8 y, .int .i32 m]) : IC b o d x y m w := ⟨h.cell 0, h.cell 1, h.cell 2, h.cell 3, h.cell 4⟩
theorem ic_fr {S : Nat → Prop} {u v : World} {b : Nat} {o d x y m : Int} (hf : Fr S u v) (h : IC b o d x y m u) (hS : ¬ S b) : IC b o d x y m v := by
  obtain ⟨c0, c1, c2, c3, c4⟩ := h
  exact ⟨cell_fr hf c0 hS, cell_fr hf c1 hS, cell_fr hf c2 hS, cell_fr hf c3 hS, cell_fr hf c4 hS⟩
/-- all that a region's loads read -/
abbrev RA (b bi : Nat) (pc r0 r1 r2 r3 r4 r5 r6 r7 : Int) (a : Option Addr) (n c : Nat) (why ep home : Int) (G : Nat → Int) (gr N C gw m d : Nat) (o dd x y im : Int) (u : World) : Prop := RS b pc r0 r1 r2 r3 r4 r5 r6 r7 a n c why ep home G gr N C gw m d u ∧ IC bi o dd x y im u
theorem ra_fr {S : Nat → Prop} {u v : World} {b bi : Nat} {pc r0 r1 r2 r3 r4 r5 r6 r7 : Int} {a : Option Addr} {n c : Nat} {why ep home : Int} {G : Nat → Int} {gr N C gw m d : Nat} {o dd x y im : Int} (hf : Fr S u v) (h : RA b bi pc r0 r1 r2 r3 r4 r5 r6 r7 a n c why ep home G gr N C gw m d o dd x y im u) (h1 : ¬ S b) (h2 : ¬ S (b + 1)) (h3 : ¬ S bi) : RA b bi pc r0 r1 r2 r3 r4 r5 r6 r7 a n c why ep home G gr N C gw m d o dd x y im v := ⟨rs_fr hf h.1 h1 h2, ic_fr hf h.2 h3⟩
theorem ra_end {u v : World} {b bi : Nat} {pc r0 r1 r2 r3 r4 r5 r6 r7 : Int} {a : Option Addr} {n c : Nat} {why ep home : Int} {G : Nat → Int} {gr N C gw m d : Nat} {o dd x y im : Int} (hb : Below u.heap.size u v) (h : RA b bi pc r0 r1 r2 r3 r4 r5 r6 r7 a n c why ep home G gr N C gw m d o dd x y im u) : RA b bi pc r0 r1 r2 r3 r4 r5 r6 r7 a n c why ep home G gr N C gw m d o dd x y im v := ra_fr (S := fun _ => False) (Fr.of_below hb) h (fun h => h) (fun h => h) (fun h => h)
/-- the three stores, one behind the other, keep what is read -/
theorem ra_H {u : World} {b bi : Nat} {pc r0 r1 r2 r3 r4 r5 r6 r7 : Int} {a : Option Addr} {n c : Nat} {why ep home : Int} {G : Nat → Int} {gr N C gw m d : Nat} {o dd x y im : Int} (hi : b + 1 + 1 + 1 + 1 < bi) (h : RA b bi pc r0 r1 r2 r3 r4 r5 r6 r7 a n c why ep home G gr N C gw m d o dd x y im u) (p0 p1 p2 p3 p4 p5 p6 p7 p8 : Int) (pa : Option Addr) (pn pk : Nat) (p9 p10 p11 : Int) : RA b bi pc r0 r1 r2 r3 r4 r5 r6 r7 a n c why ep home G gr N C gw m d o dd x y im (putH u (b + 1 + 1) p0 p1 p2 p3 p4 p5 p6 p7 p8 pa pn pk p9 p10 p11) := ra_fr (putH_fr u (b + 1 + 1) ..) h (by omega) (by omega) (by omega)
theorem ra_B {u : World} {b bi : Nat} {pc r0 r1 r2 r3 r4 r5 r6 r7 : Int} {a : Option Addr} {n c : Nat} {why ep home : Int} {G : Nat → Int} {gr N C gw m d : Nat} {o dd x y im : Int} (hi : b + 1 + 1 + 1 + 1 < bi) (h : RA b bi pc r0 r1 r2 r3 r4 r5 r6 r7 a n c why ep home G gr N C gw m d o dd x y im u) (G' : Nat → Int) (q1 q2 q3 q4 q5 q6 : Nat) : RA b bi pc r0 r1 r2 r3 r4 r5 r6 r7 a n c why ep home G gr N C gw m d o dd x y im (putB u (b + 1 + 1 + 1) G' q1 q2 q3 q4 q5 q6) := ra_fr (putB_fr u (b + 1 + 1 + 1) ..) h (by omega) (by omega) (by omega)
theorem ra_N {u : World} {b bi : Nat} {pc r0 r1 r2 r3 r4 r5 r6 r7 : Int} {a : Option Addr} {n c : Nat} {why ep home : Int} {G : Nat → Int} {gr N C gw m d : Nat} {o dd x y im : Int} (hi : b + 1 + 1 + 1 + 1 < bi) (h : RA b bi pc r0 r1 r2 r3 r4 r5 r6 r7 a n c why ep home G gr N C gw m d o dd x y im u) (s1 s2 : Bool) (q1 q2 : Int) : RA b bi pc r0 r1 r2 r3 r4 r5 r6 r7 a n c why ep home G gr N C gw m d o dd x y im (putN u (b + 1 + 1 + 1 + 1) s1 s2 q1 q2) := ra_fr (putN_fr u (b + 1 + 1 + 1 + 1) ..) h (by omega) (by omega) (by omega)
theorem rs_H {u : World} {b : Nat} {pc r0 r1 r2 r3 r4 r5 r6 r7 : Int} {a : Option Addr} {n c : Nat} {why ep home : Int} {G : Nat → Int} {gr N C gw m d : Nat} (h : RS b pc r0 r1 r2 r3 r4 r5 r6 r7 a n c why ep home G gr N C gw m d u) (p0 p1 p2 p3 p4 p5 p6 p7 p8 : Int) (pa : Option Addr) (pn pk : Nat) (p9 p10 p11 : Int) : RS b pc r0 r1 r2 r3 r4 r5 r6 r7 a n c why ep home G gr N C gw m d (putH u (b + 1 + 1) p0 p1 p2 p3 p4 p5 p6 p7 p8 pa pn pk p9 p10 p11) := rs_fr (putH_fr u (b + 1 + 1) ..) h (by omega) (by omega)
theorem rs_B {u : World} {b : Nat} {pc r0 r1 r2 r3 r4 r5 r6 r7 : Int} {a : Option Addr} {n c : Nat} {why ep home : Int} {G : Nat → Int} {gr N C gw m d : Nat} (h : RS b pc r0 r1 r2 r3 r4 r5 r6 r7 a n c why ep home G gr N C gw m d u) (G' : Nat → Int) (q1 q2 q3 q4 q5 q6 : Nat) : RS b pc r0 r1 r2 r3 r4 r5 r6 r7 a n c why ep home G gr N C gw m d (putB u (b + 1 + 1 + 1) G' q1 q2 q3 q4 q5 q6) := rs_fr (putB_fr u (b + 1 + 1 + 1) ..) h (by omega) (by omega)
theorem rs_N {u : World} {b : Nat} {pc r0 r1 r2 r3 r4 r5 r6 r7 : Int} {a : Option Addr} {n c : Nat} {why ep home : Int} {G : Nat → Int} {gr N C gw m d : Nat} (h : RS b pc r0 r1 r2 r3 r4 r5 r6 r7 a n c why ep home G gr N C gw m d u) (s1 s2 : Bool) (q1 q2 : Int) : RS b pc r0 r1 r2 r3 r4 r5 r6 r7 a n c why ep home G gr N C gw m d (putN u (b + 1 + 1 + 1 + 1) s1 s2 q1 q2) := rs_fr (putN_fr u (b + 1 + 1 + 1 + 1) ..) h (by omega) (by omega)
/-- the boxes behind the first store -/
theorem RE.m1 {u : World} {b : Nat} (E : RE u b) (p0 p1 p2 p3 p4 p5 p6 p7 p8 : Int) (pa : Option Addr) (pn pk : Nat) (p9 p10 p11 : Int) : (∃ cs, Whole (putH u (b + 1 + 1) p0 p1 p2 p3 p4 p5 p6 p7 p8 pa pn pk p9 p10 p11) (b + 1 + 1 + 1) 36 cs ∧ cs.size = 10) ∧ ∃ cs, Whole (putH u (b + 1 + 1) p0 p1 p2 p3 p4 p5 p6 p7 p8 pa pn pk p9 p10 p11) (b + 1 + 1 + 1 + 1) 44 cs ∧ cs.size = 4 := by
  obtain ⟨cs, x, s⟩ := E.m
  obtain ⟨cs', x', s'⟩ := E.n
  exact ⟨⟨cs, x.fr (putH_fr u (b + 1 + 1) ..) (by omega), s⟩, cs', x'.fr (putH_fr u (b + 1 + 1) ..) (by omega), s'⟩
/-- the reference's memory behind a store -/
theorem rm_of_turn {v : World} {gr C gw gw' d d' : Nat} {M M2 : Mm} (rm : Rm v gr C gw d M) (hpg : M2.pg = M.pg) (hws : M2.ws.length = M.ws.length) (hwr : Wr v gw' M2.ws) (h1 : M.ws.length ≤ d') (h2 : d' ≤ maxLen) : Rm v gr C gw' d' M2 :=
  ⟨hpg ▸ rm.row, hwr, by rw [hpg]; exact rm.c1, rm.c2, by rw [hws]; exact h1, h2⟩
theorem one_at (u : World) (X : Int) : ∀ j x, ([.int .u32 X] : List Value)[j]? = some x → (u.alloc (.cells #[.int .u32 X] 23)).cell? ((⟨u.heap.size, 0, none⟩ : Addr).add j) = some x := by
  intro j x hj
  match j, hj with
  | 0, hj =>
    have h0 := (Whole.new u 23 #[.int .u32 X]).cell 0
    simp at hj
    subst hj
    exact h0
/-- one more on the stack: the row, then the cell that names it -/
theorem RG.push {w v w1 : World} {gr C gw d : Nat} {M : Mm} {a : Option Addr} {n c : Nat} {h : Ht} (g : RG w gr C gw d M a n c h v) (X : Int) {v' : Value} (ho : w1.ownsRow w.heap.size 23 1 v' (n + 1) (wcs h.sk ++ [.int .u32 X])) (hg : (v.alloc (.cells #[.int .u32 X] 23)).grownBy w1 (Value.slice a n c).ownBlock) :
    ∃ a2 c2, v' = .slice a2 (n + 1) c2 ∧ Whole w1 w.heap.size 30 (hCs h.pc h.r a n c h.why h.ep h.home) ∧ RG w gr C gw d M a2 (n + 1) c2 ⟨h.pc, h.r, h.sk ++ [X], h.why, h.ep, h.home⟩ (w1.setCell ⟨w.heap.size, 9, none⟩ (.slice a2 (n + 1) c2)) := by
  have kk := World.ownsRow.lt g.sk
  have hf0 := fr_of_grown hg
  have hF : Fr (fun i => (Value.slice a n c).ownBlock = some i) v w1 := ((Fr.refl (fun i => (Value.slice a n c).ownBlock = some i) v).alloc _).trans hf0 (fun i hi => Or.inl hi)
  have hl := g.low
  have hlt := g.lt
  have hB := g.B.size
  rw [wcs_snoc] at ho
  obtain ⟨c1, y1, s1⟩ := g.E.h
  obtain ⟨c2, y2, s2⟩ := g.E.m
  obtain ⟨c3, y3, s3⟩ := g.E.n
  have X1 := g.X.fr hF (g.sk.ne_ g.X (by decide))
  have Y1 := g.Y.fr hF (g.sk.ne_ g.Y (by decide))
  have E1 : RE w1 w.heap.size := ⟨⟨_, y1.fr hF (g.sk.ne_ y1 (by decide)), s1⟩, ⟨_, y2.fr hF (g.sk.ne_ y2 (by decide)), s2⟩, ⟨_, y3.fr hF (g.sk.ne_ y3 (by decide)), s3⟩⟩
  have R1 := g.rm.fr hF (fun e => by have := (kk _ e).1; omega) (fun e => by have := (kk _ e).1; omega)
  have B1 : Below w.heap.size w w1 := PR.Below.fr g.B hF hB (fun i hi => (kk i hi).1)
  rcases ho.2 with ⟨e, h0⟩ | ⟨k, cap, cur, e, hr⟩
  · omega
  · subst e
    have F2 : Fr (fun i => i = w.heap.size) w1 (w1.setCell ⟨w.heap.size, 9, none⟩ (.slice (some ⟨k, 0, none⟩) (n + 1) cap)) := (Fr.refl (fun i => i = w.heap.size) w1).set (p := ⟨w.heap.size, 9, none⟩) (Or.inl rfl) _
    have hne := Sk.ne_ ho X1 (by decide)
    exact ⟨_, _, rfl, X1, ⟨Sk.fr ho F2 (fun i hi e => hne (by rw [hi, e])), R1.fr F2 (by omega) (by omega), E1.fr F2 (by omega) (by omega) (by omega), X1.set_ 9 _, Y1.fr F2 (by omega), PR.Below.fr B1 F2 B1.size (by rintro i rfl; omega), hl⟩⟩
/-- the box of a note -/
abbrev NN (b : Nat) (sf st : Bool) (y x : Int) (u : World) : Prop := u.cell? ⟨b, 0, none⟩ = some (.bool sf) ∧ u.cell? ⟨b, 1, none⟩ = some (.bool st) ∧ u.cell? ⟨b, 2, none⟩ = some (.int .u32 y) ∧ u.cell? ⟨b, 3, none⟩ = some (.int .u32 x)
/-- what is read where a safepoint was asked: the two boxes, the hart and the note that were told -/
abbrev SB (b bx : Nat) (pc r0 r1 r2 r3 r4 r5 r6 r7 : Int) (a : Option Addr) (n c : Nat) (why ep home : Int) (G : Nat → Int) (gr N C gw m d : Nat) (pc' why' ep' : Int) (sf : Bool) (u : World) : Prop := (RS b pc r0 r1 r2 r3 r4 r5 r6 r7 a n c why ep home G gr N C gw m d u ∧ HC bx pc' r0 r1 r2 r3 r4 r5 r6 r7 a n c why' ep' home u) ∧ NN (bx + 1) sf false 0 0 u
theorem sb_fr {S : Nat → Prop} {u v : World} {b bx : Nat} {pc r0 r1 r2 r3 r4 r5 r6 r7 : Int} {a : Option Addr} {n c : Nat} {why ep home : Int} {G : Nat → Int} {gr N C gw m d : Nat} {pc' why' ep' : Int} {sf : Bool} (hf : Fr S u v) (h : SB b bx pc r0 r1 r2 r3 r4 r5 r6 r7 a n c why ep home G gr N C gw m d pc' why' ep' sf u) (h1 : ¬ S b) (h2 : ¬ S (b + 1)) (h3 : ¬ S bx) (h4 : ¬ S (bx + 1)) : SB b bx pc r0 r1 r2 r3 r4 r5 r6 r7 a n c why ep home G gr N C gw m d pc' why' ep' sf v := by
  obtain ⟨⟨x1, x2⟩, c0, c1, c2, c3⟩ := h
  exact ⟨⟨rs_fr hf x1 h1 h2, hc_fr hf x2 h3⟩, cell_fr hf c0 h4, cell_fr hf c1 h4, cell_fr hf c2 h4, cell_fr hf c3 h4⟩
theorem RG.safebox {w v : World} {gr C gw d : Nat} {M : Mm} {a : Option Addr} {n c : Nat} {h : Ht} (g : RG w gr C gw d M a n c h v) (p2 y2 e2 : Int) (sf : Bool) :
    RG w gr C gw d M a n c h ((v.alloc (.cells (hCs p2 h.r a n c y2 e2 h.home) 30)).alloc (.cells (nCs sf false 0 0) 44)) ∧ SB w.heap.size v.heap.size h.pc (h.r 0) (h.r 1) (h.r 2) (h.r 3) (h.r 4) (h.r 5) (h.r 6) (h.r 7) a n c h.why h.ep h.home M.gt gr M.pg.length C gw M.ws.length d p2 y2 e2 sf ((v.alloc (.cells (hCs p2 h.r a n c y2 e2 h.home) 30)).alloc (.cells (nCs sf false 0 0) 44)) := by
  have g2 := g.belowS ((PR.below_new v (.cells (hCs p2 h.r a n c y2 e2 h.home) 30)).alloc (by simp) (.cells (nCs sf false 0 0) 44))
  have N1 := Whole.new (v.alloc (.cells (hCs p2 h.r a n c y2 e2 h.home) 30)) 44 (nCs sf false 0 0)
  rw [World.size_alloc] at N1
  exact ⟨g2, ⟨⟨g2.rs, hart_cells ((Whole.new v _ _).alloc _)⟩, note_cells N1⟩⟩
/-- one less on the stack -/
theorem RG.pop {w v : World} {gr C gw d : Nat} {M : Mm} {gs k c : Nat} {h : Ht} (g : RG w gr C gw d M (some ⟨gs, 0, none⟩) (k + 1) c h v) (X : Int) :
    RG w gr C gw d M (some ⟨gs, 0, none⟩) k c ⟨X, h.r, h.sk.take k, h.why, h.ep, h.home⟩ ((v.setCell ⟨w.heap.size, 0, none⟩ (.int .u32 X)).setCell ⟨w.heap.size, 9, none⟩ (.slice (some ⟨gs, 0, none⟩) k c)) := by
  have g1 := g.turn X
  generalize v.setCell ⟨w.heap.size, 0, none⟩ (.int .u32 X) = u at *
  have F : Fr (fun i => i = w.heap.size) u (u.setCell ⟨w.heap.size, 9, none⟩ (.slice (some ⟨gs, 0, none⟩) k c)) := (Fr.refl (fun i => i = w.heap.size) u).set (p := ⟨w.heap.size, 9, none⟩) (Or.inl rfl) _
  have hl := g.low
  have s1 := sk_cut g1.sk
  exact ⟨s1.fr F (fun i hi e => s1.ne_ g1.X (by decide) (by rw [hi, e])), g1.rm.fr F (by omega) (by omega), g1.E.fr F (by omega) (by omega) (by omega), g1.X.set_ 9 _, g1.Y.fr F (by omega), PR.Below.fr g1.B F g1.B.size (by rintro i rfl; omega), g.low⟩
theorem RG.top {w v : World} {gr C gw d : Nat} {M : Mm} {a : Option Addr} {k c : Nat} {h : Ht} (g : RG w gr C gw d M a (k + 1) c h v) : ∃ gs, a = some ⟨gs, 0, none⟩ ∧ k + 1 ≤ c ∧ v.cell? ⟨gs, k, none⟩ = some (.int .u32 (h.sk.getD k 0)) := by
  have sk := g.sk
  have hl := sk.len
  obtain ⟨gs, rfl, hkc⟩ : ∃ gs, a = some ⟨gs, 0, none⟩ ∧ k + 1 ≤ c := by
    rcases sk.2 with ⟨e, _⟩ | ⟨g, cap, cur, e, _, _, h1, _⟩
    · simp at e
    · simp only [Value.slice.injEq, true_and] at e
      exact ⟨g, e.1, by omega⟩
  have hcell := World.ownsRow.cellAt sk k (by omega)
  rw [wcs_at (by omega)] at hcell
  exact ⟨gs, rfl, hkc, hcell⟩
end Go.Proofs.YtihcellcdkhadaaGreat.HF
