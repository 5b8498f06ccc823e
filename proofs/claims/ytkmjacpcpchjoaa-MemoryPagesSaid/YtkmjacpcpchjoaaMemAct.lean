/-
  Calls, as they come in; both memories through many calls. Nothing here is a statement of the seed.
-/
import Derived.Test.YtkmjacpcpchjoaaMemLooks
import Derived.Test.YtkmjacpcpchjoaaMemSame
import Derived.Test.YtkmjacpcpchjoaaMemAwake
import Derived.Deep.RegionWith
set_option linter.unusedSimpArgs false
set_option linter.unusedVariables false
namespace Go.Proofs.Ytkmjacpcpchjoaa.MF
open Go.RowKit PM PR PF MM MR

/-- the seven cells of one call -/
def ActAt (w : World) (ga o : Nat) (x : MM.Ac) : Prop := w.cell? ⟨ga, o, none⟩ = some (.int .u8 x.k) ∧ w.cell? ⟨ga, o + 1, none⟩ = some (.int .u32 x.a) ∧ w.cell? ⟨ga, o + 2, none⟩ = some (.int .u32 x.w) ∧ w.cell? ⟨ga, o + 3, none⟩ = some (.int .i64 x.p) ∧
  w.cell? ⟨ga, o + 4, none⟩ = some (.int .i64 x.n) ∧ w.cell? ⟨ga, o + 5, none⟩ = some (.int .u16 x.o) ∧ w.cell? ⟨ga, o + 6, none⟩ = some (.int .u64 x.e)
/-- the slice v holds n calls -/
def Acts (B : Nat) (w : World) (v : Value) (n : Nat) : Prop :=
  ∃ a cap, v = .slice a n cap ∧ n ≤ cap ∧ cap ≤ maxLen ∧ (n = 0 ∨ ∃ ga off, a = some ⟨ga, off, none⟩ ∧ ga < B ∧ ∀ i, i < n → ∃ x, AOk x ∧ ActAt w ga (off + i * 7) x)
theorem ActAt.below {w wr : World} {ga o : Nat} {x : MM.Ac} (h : ActAt w ga o x) (hb : Below w.heap.size w wr) (hg : ga < w.heap.size) : ActAt wr ga o x := by
  have c := fun i => hb.cell (p := ⟨ga, i, none⟩) hg
  obtain ⟨h1, h2, h3, h4, h5, h6, h7⟩ := h
  exact ⟨(c _).trans h1, (c _).trans h2, (c _).trans h3, (c _).trans h4, (c _).trans h5, (c _).trans h6, (c _).trans h7⟩
/-- what a loop's round holds of both memories: the program's at p, the reference's in the variable R -/
structure DuoIn (w0 : World) (p t g gwp R : Nat) (M : Mm) (gr c gw d : Nat) (wr : World) : Prop where
  pm : Pm wr p t g gwp M
  rm : Rm wr gr c gw d M
  hgr : gr ≠ g
  hgw : gw ≠ gwp
  box : Whole wr R 33 (rCs M.gt gr M.pg.length c gw M.ws.length d)
  b1 : w0.heap.size ≤ p
  b2 : w0.heap.size ≤ t
  b3 : w0.heap.size ≤ g
  b4 : w0.heap.size ≤ gwp
  b5 : w0.heap.size ≤ R
  low : Below w0.heap.size w0 wr
def Duo (w0 : World) (p t g gwp R : Nat) (wr : World) : Prop := ∃ M gr c gw d, DuoIn w0 p t g gwp R M gr c gw d wr
section
variable {w0 wr w' : World} {p t g gwp R gr c gw d : Nat} {M : Mm}
theorem DuoIn.belowS (h : DuoIn w0 p t g gwp R M gr c gw d wr) (hb : Below wr.heap.size wr w') : DuoIn w0 p t g gwp R M gr c gw d w' := ⟨h.pm.belowS hb, h.rm.belowS hb, h.hgr, h.hgw, h.box.belowS hb, h.b1, h.b2, h.b3, h.b4, h.b5, below_of h.low hb⟩
theorem DuoIn.fr {S : Nat → Prop} (h : DuoIn w0 p t g gwp R M gr c gw d wr) (hf : Fr S wr w') (h1 : ¬ S p) (h2 : ¬ S t) (h3 : ¬ S g) (h4 : ¬ S gwp) (h5 : ¬ S gr) (h6 : ¬ S gw) (h7 : ¬ S R) (h8 : ∀ i, S i → w0.heap.size ≤ i) : DuoIn w0 p t g gwp R M gr c gw d w' :=
  ⟨h.pm.fr hf h1 h2 h3 h4, h.rm.fr hf h5 h6, h.hgr, h.hgw, h.box.fr hf h7, h.b1, h.b2, h.b3, h.b4, h.b5, PR.Below.fr h.low hf h.low.size h8⟩
theorem DuoIn.ne (h : DuoIn w0 p t g gwp R M gr c gw d wr) : R ≠ p ∧ R ≠ t ∧ R ≠ g ∧ R ≠ gwp ∧ R ≠ gr ∧ R ≠ gw := by
  obtain ⟨d9, _, _, hp⟩ := h.pm.top
  obtain ⟨_, hg, c9, _, _, ht⟩ := h.pm.tb
  exact ⟨h.box.ne_ hp (by decide), h.box.ne_ ht (by decide), hg.elim fun r hr => h.box.ne_ hr (by decide), h.pm.wr.ne_ h.box (by decide), h.rm.row.elim fun r hr => h.box.ne_ hr (by decide), h.rm.wr.ne_ h.box (by decide)⟩
/-- behind a call, before its memory is laid in the variable -/
structure DuoMid (w0 : World) (p t g gwp R : Nat) (M' : Mm) (gr c gw d : Nat) (wr w2 : World) : Prop where
  pm : Pm w2 p t g gwp M'
  rm : Rm w2 gr c gw d M'
  hgr : gr ≠ g
  hgw : gw ≠ gwp
  box : ∃ cs, Whole w2 R 33 cs ∧ cs.size = 10
  fr : Fr (MS p g gwp) wr w2
  b1 : w0.heap.size ≤ p
  b2 : w0.heap.size ≤ t
  b3 : w0.heap.size ≤ g
  b4 : w0.heap.size ≤ gwp
  b5 : w0.heap.size ≤ R
  low : Below w0.heap.size w0 wr
theorem duo_do (h : DuoIn w0 p t g gwp R M gr c gw d wr) (x : MM.Ac) (hx : AOk x) :
    Calls Try.prog 13 #[.pointer (some ⟨p, 0, none⟩), rV M.gt gr M.pg.length c gw M.ws.length d, .agg (aCs x.k x.a x.w x.p x.n x.o x.e)] wr.drew fun en w2 =>
      ∃ gr' c' gw' d', en = .returned (.tuple #[rV (actM M x).gt gr' (actM M x).pg.length c' gw' (actM M x).ws.length d', .bool true]) ∧ DuoMid w0 p t g gwp R (actM M x) gr' c' gw' d' wr w2 := by
  have hd : Below wr.heap.size wr wr.drew := (Below.refl _ _).drew
  refine (do_any (h.pm.belowS hd) (h.rm.belowS hd) h.hgr h.hgw x hx).mono ?_
  rintro en w2 ⟨gr', c', gw', d', he, hP, hR, hF, h1, h2⟩
  have hF2 : Fr (MS p g gwp) wr w2 := (Fr.of_below hd).trans hF (fun i hi => Or.inl hi)
  have hl := h.pm.lt
  have hn := h.ne
  have hgl : (wr.drew).heap.size = wr.heap.size := rfl
  rw [hgl] at h1 h2
  refine ⟨gr', c', gw', d', he, hP, hR, ?_, ?_, ⟨_, h.box.fr hF2 (by rintro (e | e | e) <;> omega), rfl⟩, hF2, h.b1, h.b2, h.b3, h.b4, h.b5, h.low⟩
  · rcases h1 with rfl | h1
    · exact h.hgr
    · omega
  · rcases h2 with rfl | h2
    · exact h.hgw
    · omega
theorem DuoMid.open_ {w2 : World} {M' : Mm} (h : DuoMid w0 p t g gwp R M' gr c gw d wr w2) : (∃ v0 v1 v2 v3 v4 v5 v6 v7 v8 v9, w2.cell? ⟨R, 0, none⟩ = some v0 ∧ w2.cell? ⟨R, 1, none⟩ = some v1 ∧ w2.cell? ⟨R, 2, none⟩ = some v2 ∧ w2.cell? ⟨R, 3, none⟩ = some v3 ∧ w2.cell? ⟨R, 4, none⟩ = some v4 ∧ w2.cell? ⟨R, 5, none⟩ = some v5 ∧ w2.cell? ⟨R, 6, none⟩ = some v6 ∧ w2.cell? ⟨R, 7, none⟩ = some v7 ∧ w2.cell? ⟨R, 8, none⟩ = some v8 ∧ w2.cell? ⟨R, 9, none⟩ = some v9) ∧
    w2.frozen? ⟨R, 0, none⟩ = false ∧ w2.frozen? ⟨R, 1, none⟩ = false ∧ w2.frozen? ⟨R, 2, none⟩ = false ∧ w2.frozen? ⟨R, 3, none⟩ = false ∧ w2.frozen? ⟨R, 4, none⟩ = false ∧ w2.frozen? ⟨R, 5, none⟩ = false ∧ w2.frozen? ⟨R, 6, none⟩ = false ∧ w2.frozen? ⟨R, 7, none⟩ = false ∧ w2.frozen? ⟨R, 8, none⟩ = false ∧ w2.frozen? ⟨R, 9, none⟩ = false := by
  obtain ⟨cs, hb, hs⟩ := h.box
  exact box_open hb hs
/-- the variable turned -/
theorem duo_next {w2 : World} {M' : Mm} (h : DuoMid w0 p t g gwp R M' gr c gw d wr w2) : DuoIn w0 p t g gwp R M' gr c gw d (putB w2 R M'.gt gr M'.pg.length c gw M'.ws.length d) ∧ Fr (fun i => i = p ∨ i = g ∨ i = gwp ∨ i = R) wr (putB w2 R M'.gt gr M'.pg.length c gw M'.ws.length d) := by
  obtain ⟨cs, hb, hs⟩ := h.box
  obtain ⟨d9, _, _, hp⟩ := h.pm.top
  obtain ⟨_, hg, c9, _, _, ht⟩ := h.pm.tb
  have n1 : R ≠ p := hb.ne_ hp (by decide)
  have n2 : R ≠ t := hb.ne_ ht (by decide)
  have n3 : R ≠ g := hg.elim fun r hr => hb.ne_ hr (by decide)
  have n4 : R ≠ gwp := h.pm.wr.ne_ hb (by decide)
  have n5 : R ≠ gr := h.rm.row.elim fun r hr => hb.ne_ hr (by decide)
  have n6 : R ≠ gw := h.rm.wr.ne_ hb (by decide)
  have hf := putB_fr w2 R M'.gt gr M'.pg.length c gw M'.ws.length d
  have hF : Fr (fun i => i = p ∨ i = g ∨ i = gwp ∨ i = R) wr (putB w2 R M'.gt gr M'.pg.length c gw M'.ws.length d) := (h.fr.mono (S' := fun i => i = p ∨ i = g ∨ i = gwp ∨ i = R) (fun i hi => Or.inl (by rcases hi with hi | hi | hi <;> simp [hi]))).trans hf (fun i hi => Or.inl (by simp [hi]))
  exact ⟨⟨h.pm.fr hf n1.symm n2.symm n3.symm n4.symm, h.rm.fr hf n5.symm n6.symm, h.hgr, h.hgw, putB_whole hb hs .., h.b1, h.b2, h.b3, h.b4, h.b5, PR.Below.fr h.low hF h.low.size (by have := h.b1; have := h.b3; have := h.b4; have := h.b5; rintro i (rfl | rfl | rfl | rfl) <;> assumption)⟩, hF⟩
theorem duo_looks (h : DuoIn w0 p t g gwp R M gr c gw d wr) (a ep : Int) (ha : 0 ≤ a ∧ a ≤ 4294967295) :
    Calls Try.prog 14 #[.pointer (some ⟨p, 0, none⟩), rV M.gt gr M.pg.length c gw M.ws.length d, .int .u32 a, .int .u64 ep] wr fun e w' => e = .returned (.bool true) ∧ Below wr.heap.size wr w' := looks_any h.pm h.rm a ep ha
theorem duo_same (h : DuoIn w0 p t g gwp R M gr c gw d wr) :
    Calls Try.prog 12 #[.pointer (some ⟨p, 0, none⟩), rV M.gt gr M.pg.length c gw M.ws.length d] wr fun e w' => e = .returned (.bool true) ∧ Below wr.heap.size wr w' := same_any h.pm h.rm
end
/-- New, of both, and the variable -/
theorem duo_new {w w1 w2 : World} {M : Mm} {p t g gwp gr c gw d : Nat} (hP : Pm w1 p t g gwp M) (hp : w.heap.size ≤ p) (ht : w.heap.size ≤ t) (hg : w.heap.size ≤ g) (hgw : w.heap.size ≤ gwp) (hb : Below w.heap.size w w1)
    (hR : Rm w2 gr c gw d M) (h1 : w1.heap.size ≤ gr) (h2 : w1.heap.size ≤ gw) (hb2 : Below w1.heap.size w1 w2) :
    DuoIn w p t g gwp w2.heap.size M gr c gw d (w2.alloc (.cells (rCs M.gt gr M.pg.length c gw M.ws.length d) 33)) := by
  have hl := hP.lt
  have hw := below_of hb hb2
  exact ⟨(hP.belowS hb2).belowS (below_new _ _), hR.belowS (below_new _ _), by omega, by omega, Whole.new _ _ _, hp, ht, hg, hgw, hw.size, hw.alloc hw.size _⟩
end Go.Proofs.Ytkmjacpcpchjoaa.MF
