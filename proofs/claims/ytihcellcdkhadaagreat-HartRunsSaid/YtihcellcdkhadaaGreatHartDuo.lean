/-
  Both memories side by side: the program's, and the reference's in a variable. Nothing here is a statement of the seed.
-/
import Derived.Test.YtihcellcdkhadaaGreatHartCopy
import Derived.Test.YtihcellcdkhadaaGreatHartLand
import Derived.Test.YtihcellcdkhadaaGreatMemD
set_option linter.unusedSimpArgs false
set_option linter.unusedVariables false
namespace Go.Proofs.YtihcellcdkhadaaGreat.HF
open Go.RowKit PM PR PF MM MR MF HM HR

/-- the program's memory at p is MP; the reference's in the variable R is MQ -/
structure Duo (B p t g gwp R : Nat) (MP MQ : Mm) (gr c gw d : Nat) (u : World) : Prop where
  pm : Pm u p t g gwp MP
  rm : Rm u gr c gw d MQ
  ok : MOk MQ
  hgr : gr ≠ g
  hgw : gw ≠ gwp
  box : Whole u R 36 (rCs MQ.gt gr MQ.pg.length c gw MQ.ws.length d)
  b1 : B ≤ p
  b2 : B ≤ t
  b3 : B ≤ g
  b4 : B ≤ gwp
  b5 : B ≤ R
  b6 : B ≤ gr
  b7 : B ≤ gw
section
variable {B p t g gwp R gr c gw d : Nat} {MP MQ : Mm} {u u' : World}
theorem Duo.belowS (h : Duo B p t g gwp R MP MQ gr c gw d u) (hb : Below u.heap.size u u') : Duo B p t g gwp R MP MQ gr c gw d u' := ⟨h.pm.belowS hb, h.rm.belowS hb, h.ok, h.hgr, h.hgw, h.box.belowS hb, h.b1, h.b2, h.b3, h.b4, h.b5, h.b6, h.b7⟩
theorem Duo.ne (h : Duo B p t g gwp R MP MQ gr c gw d u) : R ≠ p ∧ R ≠ t ∧ R ≠ g ∧ R ≠ gwp ∧ R ≠ gr ∧ R ≠ gw ∧ gr ≠ p ∧ gr ≠ gwp ∧ gw ≠ p ∧ gw ≠ g ∧ gr ≠ t ∧ gw ≠ t := by
  obtain ⟨d9, _, _, hp⟩ := h.pm.top
  obtain ⟨_, hg, c9, _, _, ht⟩ := h.pm.tb
  obtain ⟨r1, hr1⟩ := h.rm.row
  obtain ⟨r2, hr2⟩ := hg
  exact ⟨h.box.ne_ hp (by decide), h.box.ne_ ht (by decide), h.box.ne_ hr2 (by decide), h.pm.wr.ne_ h.box (by decide), h.box.ne_ hr1 (by decide), h.rm.wr.ne_ h.box (by decide), hr1.ne_ hp (by decide), h.pm.wr.ne_ hr1 (by decide), (h.rm.wr.ne_ hp (by decide)).symm, (h.rm.wr.ne_ hr2 (by decide)).symm, hr1.ne_ ht (by decide), (h.rm.wr.ne_ ht (by decide)).symm⟩
/-- the program's has turned -/
theorem Duo.prog {MP' : Mm} (h : Duo B p t g gwp R MP MQ gr c gw d u) (hf : Fr (MS p g gwp) u u') (hP : Pm u' p t g gwp MP') : Duo B p t g gwp R MP' MQ gr c gw d u' := by
  obtain ⟨n1, n2, n3, n4, n5, n6, n7, n8, n9, n10, n11, n12⟩ := h.ne
  have h1 := h.hgr
  have h2 := h.hgw
  exact ⟨hP, h.rm.fr hf (by rintro (e | e | e) <;> omega) (by rintro (e | e | e) <;> omega), h.ok, h1, h2, h.box.fr hf (by rintro (e | e | e) <;> omega), h.b1, h.b2, h.b3, h.b4, h.b5, h.b6, h.b7⟩
/-- its pages have turned -/
theorem Duo.pages {l : List Pg} (h : Duo B p t g gwp R MP MQ gr c gw d u) (hf : Fr (fun i => i = g) u u') (hr : Row u' g l) (hl : l.length = MP.pg.length) (hF : FineL l) : Duo B p t g gwp R (withP MP l) MQ gr c gw d u' :=
  h.prog (hf.mono (fun i hi => Or.inl (Or.inr (Or.inl hi)))) (h.pm.pages hf hl hF hr)
/-- all blocks lie low -/
theorem Duo.lt (h : Duo B p t g gwp R MP MQ gr c gw d u) : p < u.heap.size ∧ t < u.heap.size ∧ g < u.heap.size ∧ gwp < u.heap.size ∧ R < u.heap.size ∧ gr < u.heap.size ∧ gw < u.heap.size := ⟨h.pm.lt.1, h.pm.lt.2.1, h.pm.lt.2.2.1, h.pm.lt.2.2.2, h.box.lt, h.rm.lt.1, h.rm.lt.2⟩
/-- a frame that leaves all of it -/
theorem Duo.fr {S : Nat → Prop} (h : Duo B p t g gwp R MP MQ gr c gw d u) (hf : Fr S u u') (hS : ∀ i, S i → i < B ∨ u.heap.size ≤ i) : Duo B p t g gwp R MP MQ gr c gw d u' := by
  obtain ⟨l1, l2, l3, l4, l5, l6, l7⟩ := h.lt
  have hh := h
  obtain ⟨_, _, _, _, _, _, b1, b2, b3, b4, b5, b6, b7⟩ := hh
  have no : ∀ i, B ≤ i → i < u.heap.size → ¬ S i := fun i h1 h2 h3 => by rcases hS i h3 with h | h <;> omega
  exact ⟨h.pm.fr hf (no _ b1 l1) (no _ b2 l2) (no _ b3 l3) (no _ b4 l4), h.rm.fr hf (no _ b6 l6) (no _ b7 l7), h.ok, h.hgr, h.hgw, h.box.fr hf (no _ b5 l5), b1, b2, b3, b4, b5, b6, b7⟩
/-- the reference's words, or gates, have turned, and lie in the variable -/
theorem Duo.word {MQ' : Mm} {u2 : World} {gw' d' : Nat} (h : Duo B p t g gwp R MP MQ gr c gw d u) (hpg : MQ'.pg = MQ.pg) (hws : MQ'.ws.length = MQ.ws.length) (ok : MOk MQ') (hB : B ≤ u.heap.size) (hw : Wr u2 gw' MQ'.ws) (h1 : gw' = gw ∨ u.heap.size ≤ gw') (h2 : MQ.ws.length ≤ d') (h3 : d' ≤ maxLen) (hb : Below u.heap.size u u2) :
    Duo B p t g gwp R MP MQ' gr c gw' d' (putB u2 R MQ'.gt gr MQ.pg.length c gw' MQ.ws.length d') ∧ Fr (fun i => i = R) u2 (putB u2 R MQ'.gt gr MQ.pg.length c gw' MQ.ws.length d') := by
  have hd := h.belowS hb
  obtain ⟨n1, n2, n3, n4, n5, n6, n7, n8, n9, n10, n11, n12⟩ := hd.ne
  have F := putB_fr u2 R MQ'.gt gr MQ.pg.length c gw' MQ.ws.length d'
  have hlt := h.lt
  have n13 : R ≠ gw' := hw.ne_ hd.box (by decide)
  have n14 := h.b7
  have n15 := h.hgw
  refine ⟨⟨hd.pm.fr F n1.symm n2.symm n3.symm n4.symm, ⟨?_, hw.fr F n13.symm, ?_, h.rm.c2, by rw [hws]; exact h2, h3⟩, ok, h.hgr, ?_, ?_, h.b1, h.b2, h.b3, h.b4, h.b5, h.b6, ?_⟩, F⟩
  · rw [hpg]; exact hd.rm.row.fr F n5.symm
  · rw [hpg]; exact h.rm.c1
  · rcases h1 with rfl | h1
    · exact n15
    · omega
  · rw [hpg, hws]; exact putB_whole hd.box rfl ..
  · rcases h1 with rfl | h1
    · exact n14
    · omega
/-- the reference's pages have turned, and lie in the variable -/
theorem Duo.pageR {l : List Pg} {u2 : World} {gr' c' : Nat} (h : Duo B p t g gwp R MP MQ gr c gw d u) (hl : l.length = MQ.pg.length) (hF : FineL l) (hB : B ≤ u.heap.size) (hr : Row u2 gr' l) (h2 : l.length ≤ c') (h3 : c' ≤ maxLen) (hb : Below u.heap.size u u2) (h1 : gr' = gr ∨ u.heap.size ≤ gr') :
    Duo B p t g gwp R MP (withP MQ l) gr' c' gw d (u2.setCell ⟨R, 8, none⟩ (.slice (some ⟨gr', 0, none⟩) MQ.pg.length c')) := by
  have hd := h.belowS hb
  obtain ⟨n1, n2, n3, n4, n5, n6, n7, n8, n9, n10, n11, n12⟩ := hd.ne
  have F := (Fr.refl (fun i => i = R) u2).set (p := ⟨R, 8, none⟩) (Or.inl rfl) (.slice (some ⟨gr', 0, none⟩) MQ.pg.length c')
  have hlt := h.lt
  have n13 : R ≠ gr' := hr.elim fun r hr => hd.box.ne_ hr (by decide)
  have n14 := h.b6
  have n15 := h.hgr
  refine ⟨hd.pm.fr F n1.symm n2.symm n3.symm n4.symm, ⟨hr.fr F n13.symm, hd.rm.wr.fr F n6.symm, h2, h3, h.rm.d1, h.rm.d2⟩, h.ok.withP hl hF, ?_, h.hgw, ?_, h.b1, h.b2, h.b3, h.b4, h.b5, ?_, h.b7⟩
  · rcases h1 with rfl | h1
    · exact n15
    · omega
  · have := hd.box.set_ 8 (.slice (some ⟨gr', 0, none⟩) MQ.pg.length c')
    show Whole _ R _ (rCs MQ.gt gr' l.length c' gw MQ.ws.length d)
    rw [hl]
    exact this
  · rcases h1 with rfl | h1
    · exact n14
    · omega
end
/-- New, of both, and the variable -/
theorem duo_new {w1 w2 : World} {M : Mm} {B p t g gwp gr c gw d : Nat} (ok : MOk M) (hP : Pm w1 p t g gwp M) (hp : B ≤ p) (ht : B ≤ t) (hg : B ≤ g) (hgw : B ≤ gwp) (hB : B ≤ w1.heap.size)
    (hR : Rm w2 gr c gw d M) (h1 : w1.heap.size ≤ gr) (h2 : w1.heap.size ≤ gw) (hb2 : Below w1.heap.size w1 w2) :
    Duo B p t g gwp w2.heap.size M M gr c gw d (w2.alloc (.cells (rCs M.gt gr M.pg.length c gw M.ws.length d) 36)) := by
  have hl := hP.lt
  have := hb2.size
  exact ⟨(hP.belowS hb2).belowS (below_new _ _), hR.belowS (below_new _ _), ok, by omega, by omega, Whole.new _ _ _, hp, ht, hg, hgw, by omega, by omega, by omega⟩
end Go.Proofs.YtihcellcdkhadaaGreat.HF
