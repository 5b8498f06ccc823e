/-
  Joined texts: MemMath, MemRow, MemLeaf, MemFind, MemProg, MemFork. Nothing here is a statement of the seed.
-/
import Derived.Test.YtihcellcdkhadaaGreatPageA
import Derived.Test.YtihcellcdkhadaaGreatIsaA
import Derived.Test.YtihcellcdkhadaaGreatPageE
import Derived.Test.YtihcellcdkhadaaGreatIsaC
import Derived.Deep.RegionWith
set_option linter.unusedSimpArgs false
set_option linter.unusedVariables false
/-
  Memories as numbers: gates, pages, words, and what becomes of them. Plain mathematics; nothing here is a statement of the seed.
-/
namespace Go.Proofs.YtihcellcdkhadaaGreat.MM
open PM

/-- a memory: its gates, its pages, the pages' words -/
structure Mm where
  gt : Nat → Int
  pg : List Pg
  ws : List Int
/-- what every memory is like -/
structure MOk (M : Mm) : Prop where
  p256 : M.pg.length ≤ 256
  w16 : M.ws.length = M.pg.length * 16
  fine : FineL M.pg
def pageOf (a : Int) : Int := if a < 80 ∨ 4176 ≤ a then -1 else (a - 80) / 16
/-- the page i, or none -/
def gPm (l : List Pg) (i : Int) : Pg := if i < 0 then zero else l.getD i.toNat zero
def thereB (M : Mm) (a : Int) : Bool := decide (80 ≤ a ∧ a < 80 + (M.ws.length : Int))
def slotW (k : Int) : Int := IM.enc 21 0 0 0 k
def word (M : Mm) (a : Int) : Int := M.ws.getD (a - 80).toNat 0
def peek (M : Mm) (a : Int) : Int := if a < 64 then slotW a else if a < 72 then M.gt (a - 64).toNat else if thereB M a then word M a else 0
def pageAt (M : Mm) (a : Int) : Pg := gPm M.pg (pageOf a)
def putE (M : Mm) (a : Int) : Int := if thereB M a then if (pageAt M a).st = 1 then 0 else 9 else 11
def setW (M : Mm) (a w : Int) : Mm := ⟨M.gt, M.pg, M.ws.set (a - 80).toNat w⟩
def putM (M : Mm) (a w : Int) : Mm := if putE M a = 0 then setW M a w else M
def gate (M : Mm) (g : Int) : Int := if g < 0 ∨ 8 ≤ g then 0 else M.gt g.toNat
def setE (g : Int) : Int := if g < 0 ∨ 8 ≤ g then 2 else 0
def setG (G : Nat → Int) (g : Nat) (b : Int) : Nat → Int := fun j => if j = g then b else G j
def setM (M : Mm) (g b : Int) : Mm := if setE g = 0 then ⟨setG M.gt g.toNat b, M.pg, M.ws⟩ else M
def fetchB (M : Mm) (a e : Int) : Bool := decide (a < 64) || (thereB M a && runsB (pageAt M a) e)
def fetchW (M : Mm) (a e : Int) : Int := if fetchB M a e then peek M a else 0
def fetchO (M : Mm) (a e : Int) : Int := if a < 64 then 0 else if fetchB M a e then (pageAt M a).ow else 0
def loadB (M : Mm) (a e : Int) : Bool := decide (a < 80) || (thereB M a && seenB (pageAt M a) e)
def loadW (M : Mm) (a e : Int) : Int := if loadB M a e then peek M a else 0
def stoB (M : Mm) (a e o : Int) : Bool := thereB M a && writesB (pageAt M a) e o
def stoM (M : Mm) (a w e o : Int) : Mm := if stoB M a e o then setW M a w else M
def withP (M : Mm) (l : List Pg) : Mm := ⟨M.gt, l, M.ws⟩
/-- one call -/
structure Ac where
  k : Int
  a : Int
  w : Int
  p : Int
  n : Int
  o : Int
  e : Int
def actM (M : Mm) (x : Ac) : Mm :=
  if x.k % 8 = 0 ∨ x.k % 8 = 1 then putM M x.a x.w else if x.k % 8 = 2 then setM M (x.o - 1) x.w else if x.k % 8 = 3 then stoM M x.a x.w x.e x.o
  else if x.k % 8 = 4 then withP M (stageL M.pg x.p x.n x.o) else if x.k % 8 = 5 then withP M (pubL M.pg x.o x.n) else if x.k % 8 = 6 then withP M (retL M.pg x.o x.e) else withP M (relL M.pg x.o)
theorem MOk.setW {M : Mm} (h : MOk M) (a w : Int) : MOk (setW M a w) := ⟨h.p256, by simp [MM.setW, h.w16], h.fine⟩
theorem MOk.put {M : Mm} (h : MOk M) (a w : Int) : MOk (putM M a w) := by unfold putM; split; exact h.setW _ _; exact h
theorem MOk.set {M : Mm} (h : MOk M) (g b : Int) : MOk (setM M g b) := by
  unfold setM
  split
  · exact ⟨h.p256, h.w16, h.fine⟩
  · exact h
theorem MOk.sto {M : Mm} (h : MOk M) (a w e o : Int) : MOk (stoM M a w e o) := by unfold stoM; split; exact h.setW _ _; exact h
theorem MOk.withP {M : Mm} (h : MOk M) {l : List Pg} (hl : l.length = M.pg.length) (hf : FineL l) : MOk (withP M l) := ⟨by show l.length ≤ 256; rw [hl]; exact h.p256, by show M.ws.length = l.length * 16; rw [hl]; exact h.w16, hf⟩
theorem MOk.act {M : Mm} (h : MOk M) (x : Ac) : MOk (actM M x) := by
  unfold actM
  split
  · exact h.put _ _
  · split
    · exact h.set _ _
    · split
      · exact h.sto _ _ _ _
      · split
        · exact h.withP (stageL_len ..) (h.fine.stage _ _ _)
        · split
          · exact h.withP (pubL_len ..) (h.fine.pub _ _)
          · split
            · exact h.withP (retL_len ..) (h.fine.ret _ _)
            · exact h.withP (relL_len ..) (h.fine.rel _)
/-- a new memory of n pages -/
def newM (n : Nat) : Mm := ⟨fun _ => 0, zeros n, List.replicate (n * 16) 0⟩
theorem newM_ok {n : Nat} (h : n ≤ 256) : MOk (newM n) := ⟨by simpa [newM, zeros] using h, by simp [newM, zeros], fine_zeros n⟩
theorem there_page {M : Mm} (h : MOk M) {a : Int} (ha : thereB M a = true) : 0 ≤ pageOf a ∧ pageOf a < M.pg.length ∧ pageOf a = (a - 80) / 16 := by
  unfold thereB at ha
  rw [decide_eq_true_eq] at ha
  have := h.w16
  have := h.p256
  unfold pageOf
  rw [if_neg (by omega)]
  omega
theorem not_there {M : Mm} (h : MOk M) {a : Int} (ha : thereB M a = false) (h0 : 0 ≤ a) : pageOf a < 0 ∨ (M.pg.length : Int) ≤ pageOf a := by
  unfold thereB at ha
  rw [decide_eq_false_iff_not] at ha
  have := h.w16
  unfold pageOf
  split <;> omega
theorem gPm_none {l : List Pg} {i : Int} (h : i < 0 ∨ (l.length : Int) ≤ i) : gPm l i = zero := by
  unfold gPm
  split
  · rfl
  · rw [List.getD_eq_getElem?_getD, List.getElem?_eq_none (by omega)]; rfl
theorem not_there_page {M : Mm} (h : MOk M) {a : Int} (ha : thereB M a = false) (h0 : 0 ≤ a) : pageAt M a = zero := gPm_none (not_there h ha h0)

def bk0 : List Pg := [zero, stg 5, stg 5, zero]
def bk1 : List Pg := [zero, ⟨2, true, false, 5, 0⟩, ⟨2, false, true, 5, 0⟩, zero]
def bk2 (r : Int) : List Pg := [zero, ⟨3, true, false, 5, r⟩, ⟨3, false, true, 5, r⟩, zero]
theorem bk_s : stageE (zeros 4) 1 2 5 = 0 ∧ stageL (zeros 4) 1 2 5 = bk0 := ⟨rfl, rfl⟩
theorem bk_p : pubE bk0 5 1 = 0 ∧ pubL bk0 5 1 = bk1 := ⟨rfl, rfl⟩
theorem bk_r (r : Int) : retE bk1 5 = 0 ∧ retL bk1 5 r = bk2 r := ⟨rfl, rfl⟩
theorem page_1 {a : Int} (h : 96 ≤ a ∧ a < 112) : pageOf a = 1 := by unfold pageOf; rw [if_neg (by omega)]; omega
theorem page_2 {a : Int} (h : 112 ≤ a ∧ a < 128) : pageOf a = 2 := by unfold pageOf; rw [if_neg (by omega)]; omega
section
variable {G : Nat → Int} {ws : List Int} {a : Int}
theorem bk_there (hl : ws.length = 64) (h : 112 ≤ a ∧ a < 128) (l : List Pg) : thereB ⟨G, l, ws⟩ a = true := by unfold thereB; rw [decide_eq_true_eq]; show 80 ≤ a ∧ a < 80 + (ws.length : Int); omega
theorem bk_at1 (hl : ws.length = 64) (h : 112 ≤ a ∧ a < 128) : pageAt ⟨G, bk1, ws⟩ a = ⟨2, false, true, 5, 0⟩ := by unfold pageAt; rw [page_2 h]; rfl
theorem bk_at2 (hl : ws.length = 64) (h : 112 ≤ a ∧ a < 128) (r : Int) : pageAt ⟨G, bk2 r, ws⟩ a = ⟨3, false, true, 5, r⟩ := by unfold pageAt; rw [page_2 h]; rfl
theorem bk_st1 (hl : ws.length = 64) (h : 112 ≤ a ∧ a < 128) (e w : Int) : stoB ⟨G, bk1, ws⟩ a e 5 = true ∧ stoM ⟨G, bk1, ws⟩ a w e 5 = ⟨G, bk1, ws.set (a - 80).toNat w⟩ := by
  have : stoB ⟨G, bk1, ws⟩ a e 5 = true := by unfold stoB; rw [bk_there hl h, bk_at1 hl h]; rfl
  exact ⟨this, by unfold stoM; rw [this, if_pos rfl]; rfl⟩
theorem bk_st4 (hl : ws.length = 64) (h : 112 ≤ a ∧ a < 128) (e w : Int) : stoB ⟨G, bk1, ws⟩ a e 4 = false ∧ stoM ⟨G, bk1, ws⟩ a w e 4 = ⟨G, bk1, ws⟩ := by
  have : stoB ⟨G, bk1, ws⟩ a e 4 = false := by unfold stoB; rw [bk_at1 hl h]; simp [writesB]
  exact ⟨this, by unfold stoM; rw [this]; rfl⟩
theorem bk_st16 (hl : ws.length = 64) (h : 112 ≤ a ∧ a < 128) (e w : Int) : stoB ⟨G, bk1, ws⟩ (a - 16) e 5 = false ∧ stoM ⟨G, bk1, ws⟩ (a - 16) w e 5 = ⟨G, bk1, ws⟩ := by
  have hp : pageAt ⟨G, bk1, ws⟩ (a - 16) = ⟨2, true, false, 5, 0⟩ := by unfold pageAt; rw [page_1 (by omega)]; rfl
  have : stoB ⟨G, bk1, ws⟩ (a - 16) e 5 = false := by unfold stoB; rw [hp]; simp [writesB]
  exact ⟨this, by unfold stoM; rw [this]; rfl⟩
theorem bk_word (hl : ws.length = 64) (h : 112 ≤ a ∧ a < 128) (l : List Pg) (w : Int) : peek ⟨G, l, ws.set (a - 80).toNat w⟩ a = w := by
  unfold peek
  rw [if_neg (by omega), if_neg (by omega), if_pos (bk_there (by simpa using hl) h l)]
  unfold word
  simp only [List.getD_eq_getElem?_getD]
  rw [List.getElem?_set_self (by omega)]
  rfl
theorem bk_ld1 (hl : ws.length = 64) (h : 112 ≤ a ∧ a < 128) (e w : Int) : loadB ⟨G, bk1, ws.set (a - 80).toNat w⟩ a e = true ∧ loadW ⟨G, bk1, ws.set (a - 80).toNat w⟩ a e = w := by
  have hl' : (ws.set (a - 80).toNat w).length = 64 := by simpa using hl
  have : loadB ⟨G, bk1, ws.set (a - 80).toNat w⟩ a e = true := by unfold loadB; rw [bk_there hl' h, bk_at1 hl' h]; simp [seenB]
  exact ⟨this, by unfold loadW; rw [this, if_pos rfl, bk_word hl h]⟩
theorem bk_fe1 (hl : ws.length = 64) (h : 112 ≤ a ∧ a < 128) (e w : Int) : fetchB ⟨G, bk1, ws.set (a - 80).toNat w⟩ a e = false ∧ fetchW ⟨G, bk1, ws.set (a - 80).toNat w⟩ a e = 0 ∧ fetchO ⟨G, bk1, ws.set (a - 80).toNat w⟩ a e = 0 := by
  have hl' : (ws.set (a - 80).toNat w).length = 64 := by simpa using hl
  have h64 : ¬ a < 64 := by omega
  have : fetchB ⟨G, bk1, ws.set (a - 80).toNat w⟩ a e = false := by unfold fetchB; rw [bk_at1 hl' h]; simp [runsB, h64]
  exact ⟨this, by unfold fetchW; rw [this]; rfl, by unfold fetchO; rw [if_neg h64, this]; rfl⟩
theorem bk_ld2 (hl : ws.length = 64) (h : 112 ≤ a ∧ a < 128) (e r w : Int) : loadB ⟨G, bk2 r, ws.set (a - 80).toNat w⟩ a e = decide (e < r) := by
  have hl' : (ws.set (a - 80).toNat w).length = 64 := by simpa using hl
  have h80 : ¬ a < 80 := by omega
  unfold loadB; rw [bk_there hl' h, bk_at2 hl' h]; simp [seenB, h80]
theorem bk_st2 (hl : ws.length = 64) (h : 112 ≤ a ∧ a < 128) (e r w : Int) : stoB ⟨G, bk2 r, ws.set (a - 80).toNat w⟩ a e 5 = decide (e < r) ∧ stoM ⟨G, bk2 r, ws.set (a - 80).toNat w⟩ a w e 5 = ⟨G, bk2 r, ws.set (a - 80).toNat w⟩ := by
  have hl' : (ws.set (a - 80).toNat w).length = 64 := by simpa using hl
  refine ⟨?_, ?_⟩
  · unfold stoB; rw [bk_there hl' h, bk_at2 hl' h]; simp [writesB, seenB]
  · unfold stoM
    split
    · unfold setW; simp
    · rfl
end

theorem sto_page {M : Mm} (ok : MOk M) {a e o : Int} (h : stoB M a e o = true) : (pageAt M a).wr = true ∧ (pageAt M a).ex = false ∧ (pageAt M a).ow = o ∧ thereB M a = true := by
  unfold stoB at h
  rw [Bool.and_eq_true] at h
  obtain ⟨h1, h2⟩ := h
  obtain ⟨g1, g2, g3⟩ := there_page ok h1
  have hf : Fine (pageAt M a) := by
    unfold pageAt gPm
    rw [if_neg (by omega)]
    exact ok.fine _ (by omega)
  generalize pageAt M a = q at *
  obtain ⟨st, ex, wr, ow, ep⟩ := q
  simp only [writesB, seenB, Bool.and_eq_true, Bool.or_eq_true, decide_eq_true_eq] at h2
  obtain ⟨⟨⟨h3, h4⟩, h5⟩, h6⟩ := h2
  subst h4
  refine ⟨rfl, ?_, h5, h1⟩
  rcases hf with ⟨h, _⟩ | ⟨h, _⟩ | ⟨_, _, h⟩
  · simp only at h; omega
  · simp only at h; omega
  · cases ex
    · rfl
    · simp at h
theorem sto_at {M : Mm} {a e o : Int} (x : Int) (h : stoB M a e o = true) (ht : thereB M a = true) : peek (stoM M a x e o) a = x := by
  have h1 : thereB (setW M a x) a = true := by
    unfold thereB setW at *
    simpa using ht
  unfold stoM
  rw [if_pos h]
  unfold thereB at ht
  rw [decide_eq_true_eq] at ht
  unfold peek
  rw [if_neg (by omega), if_neg (by omega), if_pos h1]
  unfold word setW
  simp only [List.getD_eq_getElem?_getD]
  rw [List.getElem?_set_self (by omega)]
  rfl
theorem sto_other {M : Mm} {a e o k : Int} (x : Int) (hne : k ≠ a) (hk : 0 ≤ k) (ha : 0 ≤ a) : peek (stoM M a x e o) k = peek M k := by
  unfold stoM
  split
  · rename_i h
    unfold stoB at h
    rw [Bool.and_eq_true] at h
    have ht := h.1
    unfold thereB at ht
    rw [decide_eq_true_eq] at ht
    have e1 : thereB (setW M a x) k = thereB M k := by unfold thereB setW; simp
    unfold peek
    rw [e1]
    by_cases h1 : k < 64
    · rw [if_pos h1, if_pos h1]
    · rw [if_neg h1, if_neg h1]
      by_cases h2 : k < 72
      · rw [if_pos h2, if_pos h2]; rfl
      · rw [if_neg h2, if_neg h2]
        cases h3 : thereB M k
        · rfl
        · rw [if_pos rfl, if_pos rfl]
          unfold thereB at h3
          rw [decide_eq_true_eq] at h3
          unfold word setW
          simp only [List.getD_eq_getElem?_getD]
          rw [List.getElem?_set_ne (by omega)]
  · rfl
theorem sto_no {M : Mm} {a e o : Int} (x : Int) (h : stoB M a e o = false) : stoM M a x e o = M := by unfold stoM; rw [h]; rfl
end Go.Proofs.YtihcellcdkhadaaGreat.MM

/-
  Memories in memory: a block of words; the program's memory and its blocks; the reference's value. Nothing here is a statement of the seed.
-/
namespace Go.Proofs.YtihcellcdkhadaaGreat.MR
open Go.RowKit PM PR PF MM

def wcs (l : List Int) : List Value := l.map fun x => .int .u32 x
theorem wcs_len (l : List Int) : (wcs l).length = l.length := by simp [wcs]
theorem wcs_at {l : List Int} {k : Nat} (h : k < l.length) : (wcs l)[k]? = some (.int .u32 (l.getD k 0)) := by simp [wcs, h]
theorem wcs_set (l : List Int) (k : Nat) (x : Int) : (wcs l).set k (.int .u32 x) = wcs (l.set k x) := by simp [wcs, List.map_set]
/-- block g holds the words l, and more room perhaps -/
def Wr (w : World) (g : Nat) (l : List Int) : Prop := ∃ r : List Value, Whole w g 23 (wcs l ++ r).toArray
section
variable {w w' : World} {g k : Nat} {l : List Int}
theorem Wr.lt (h : Wr w g l) : g < w.heap.size := h.elim fun _ h => h.lt
theorem Wr.cell (h : Wr w g l) (hk : k < l.length) : w.cell? ⟨g, k, none⟩ = some (.int .u32 (l.getD k 0)) := by
  obtain ⟨r, h⟩ := h
  rw [h.cell, List.getElem?_toArray, List.getElem?_append_left (by rw [wcs_len]; exact hk), wcs_at hk]
theorem Wr.frozen (h : Wr w g l) (i : Nat) : w.frozen? ⟨g, i, none⟩ = false := h.elim fun _ h => h.frozen i
theorem Wr.below {B : Nat} (h : Wr w g l) (hb : Below B w w') (hg : g < B) : Wr w' g l := h.elim fun r h => ⟨r, h.below hb hg⟩
theorem Wr.belowS (h : Wr w g l) (hb : Below w.heap.size w w') : Wr w' g l := h.elim fun r h => ⟨r, h.belowS hb⟩
theorem Wr.fr {S : Nat → Prop} (h : Wr w g l) (hb : Fr S w w') (hg : ¬ S g) : Wr w' g l := h.elim fun r h => ⟨r, h.fr hb hg⟩
theorem Wr.alloc (h : Wr w g l) (o : Obj) : Wr (w.alloc o) g l := h.elim fun r h => ⟨r, h.alloc o⟩
theorem Wr.far (h : Wr w g l) {p : Addr} (hp : g ≠ p.block) (u : Value) : Wr (w.setCell p u) g l := h.elim fun r h => ⟨r, h.far hp u⟩
theorem Wr.set_ (h : Wr w g l) (hk : k < l.length) (x : Int) : Wr (w.setCell ⟨g, k, none⟩ (.int .u32 x)) g (l.set k x) := by
  obtain ⟨r, h⟩ := h
  refine ⟨r, ?_⟩
  have := h.set_ k (.int .u32 x)
  rw [List.setIfInBounds_toArray, List.set_append_left _ _ (by rw [wcs_len]; exact hk), wcs_set] at this
  exact this
theorem Wr.ne_ {t : TypeId} {cs : Array Value} (h : Wr w g l) (h' : Whole w k t cs) (hne : t ≠ 23) : k ≠ g := h.elim fun r h => h'.ne_ h hne
theorem Wr.ne_row {L : List Pg} (h : Wr w g l) (h' : Row w k L) : k ≠ g := h'.elim fun r h' => h.ne_ h' (by decide)
end
/-! the program's memory -/
abbrev pCs (G : Nat → Int) (t gw m d : Nat) : Array Value := #[.int .u32 (G 0), .int .u32 (G 1), .int .u32 (G 2), .int .u32 (G 3), .int .u32 (G 4), .int .u32 (G 5), .int .u32 (G 6), .int .u32 (G 7), .pointer (some ⟨t, 0, none⟩), .slice (some ⟨gw, 0, none⟩) m d]
/-- a memory at p: its table at t, the pages in g, the words in gw -/
structure Pm (w : World) (p t g gw : Nat) (M : Mm) : Prop where
  ok : MOk M
  tb : Tb w t g M.pg
  wr : Wr w gw M.ws
  top : ∃ d, M.ws.length ≤ d ∧ d ≤ maxLen ∧ Whole w p 100 (pCs M.gt t gw M.ws.length d)
/-- the blocks of a memory that calls may turn -/
abbrev MS (p g gw : Nat) : Nat → Prop := fun i => i = p ∨ i = g ∨ i = gw
section
variable {w w' : World} {p t g gw : Nat} {M : Mm}
theorem Pm.ne (h : Pm w p t g gw M) : p ≠ t ∧ p ≠ g ∧ p ≠ gw ∧ t ≠ g ∧ t ≠ gw ∧ g ≠ gw := by
  obtain ⟨_, h1, h2, d, _, _, h3⟩ := h
  obtain ⟨_, h4, c, _, _, h5⟩ := id h1
  exact ⟨h3.ne_ h5 (by decide), h4.elim fun r h4 => h3.ne_ h4 (by decide), h2.ne_ h3 (by decide), h1.lt.2.2, h2.ne_ h5 (by decide), h2.ne_row h4⟩
theorem Pm.lt (h : Pm w p t g gw M) : p < w.heap.size ∧ t < w.heap.size ∧ g < w.heap.size ∧ gw < w.heap.size := ⟨h.top.elim fun d h => h.2.2.lt, h.tb.lt.2.1, h.tb.lt.1, h.wr.lt⟩
theorem Pm.belowS (h : Pm w p t g gw M) (hb : Below w.heap.size w w') : Pm w' p t g gw M := by
  obtain ⟨h0, h1, h2, d, h4, h5, h3⟩ := h
  exact ⟨h0, h1.belowS hb, h2.belowS hb, d, h4, h5, h3.belowS hb⟩
theorem Pm.fr {S : Nat → Prop} (h : Pm w p t g gw M) (hb : Fr S w w') (hp : ¬ S p) (ht : ¬ S t) (hg : ¬ S g) (hw : ¬ S gw) : Pm w' p t g gw M := by
  obtain ⟨h0, h1, h2, d, h4, h5, h3⟩ := h
  exact ⟨h0, h1.fr hb hg ht, h2.fr hb hw, d, h4, h5, h3.fr hb hp⟩
/-- the pages turned -/
theorem Pm.pages {l : List Pg} (h : Pm w p t g gw M) (hf : Fr (fun i => i = g) w w') (hl : l.length = M.pg.length) (hF : FineL l) (hr : Row w' g l) : Pm w' p t g gw (withP M l) := by
  have hn := h.ne
  obtain ⟨h0, h1, h2, d, h4, h5, h3⟩ := h
  exact ⟨h0.withP hl hF, h1.turn hf hn.2.2.2.1 hl hr, h2.fr hf hn.2.2.2.2.2.symm, d, h4, h5, h3.fr hf hn.2.1⟩
/-- a word turned -/
theorem Pm.word (h : Pm w p t g gw M) {k : Nat} (hk : k < M.ws.length) (x : Int) : Pm (w.setCell ⟨gw, k, none⟩ (.int .u32 x)) p t g gw ⟨M.gt, M.pg, M.ws.set k x⟩ := by
  have hn := h.ne
  obtain ⟨h0, h1, h2, d, h4, h5, h3⟩ := h
  refine ⟨⟨h0.p256, by simpa using h0.w16, h0.fine⟩, ?_, h2.set_ hk x, d, by simpa using h4, h5, ?_⟩
  · obtain ⟨t1, t2, c, t3, t4, t5⟩ := h1
    exact ⟨t1, t2.far hn.2.2.2.2.2 _, c, t3, t4, t5.far hn.2.2.2.2.1 _⟩
  · have := h3.far (p := ⟨gw, k, none⟩) hn.2.2.1 (.int .u32 x)
    simpa using this
theorem setG_cs (G : Nat → Int) (t gw m d k : Nat) (hk : k < 8) (x : Int) : (pCs G t gw m d).setIfInBounds k (.int .u32 x) = pCs (setG G k x) t gw m d := by
  rcases (show k = 0 ∨ k = 1 ∨ k = 2 ∨ k = 3 ∨ k = 4 ∨ k = 5 ∨ k = 6 ∨ k = 7 by omega) with rfl | rfl | rfl | rfl | rfl | rfl | rfl | rfl <;> rfl
/-- a gate turned -/
theorem Pm.gate (h : Pm w p t g gw M) {k : Nat} (hk : k < 8) (x : Int) : Pm (w.setCell ⟨p, k, none⟩ (.int .u32 x)) p t g gw ⟨setG M.gt k x, M.pg, M.ws⟩ := by
  have hn := h.ne
  obtain ⟨h0, h1, h2, d, h4, h5, h3⟩ := h
  refine ⟨⟨h0.p256, h0.w16, h0.fine⟩, ?_, h2.far hn.2.2.1.symm _, d, h4, h5, ?_⟩
  · obtain ⟨t1, t2, c, t3, t4, t5⟩ := h1
    exact ⟨t1, t2.far hn.2.1.symm _, c, t3, t4, t5.far hn.1.symm _⟩
  · rw [← setG_cs _ _ _ _ _ _ hk]
    exact h3.set_ k _
/-- the memory's own cells -/
theorem Pm.cells (h : Pm w p t g gw M) : ∃ d, M.ws.length ≤ 4096 ∧ M.ws.length ≤ d ∧ d ≤ maxLen ∧ w.cell? ⟨p, 8, none⟩ = some (.pointer (some ⟨t, 0, none⟩)) ∧ w.cell? ⟨p, 9, none⟩ = some (.slice (some ⟨gw, 0, none⟩) M.ws.length d) ∧
    (∀ k, k < 8 → w.cell? ⟨p, k, none⟩ = some (.int .u32 (M.gt k))) ∧ ∀ k, w.frozen? ⟨p, k, none⟩ = false := by
  obtain ⟨h0, h1, h2, d, h4, h5, h3⟩ := h
  have := h0.w16
  have := h0.p256
  refine ⟨d, by omega, h4, h5, h3.cell 8, h3.cell 9, fun k hk => ?_, fun k => h3.frozen k⟩
  rw [h3.cell]
  rcases (show k = 0 ∨ k = 1 ∨ k = 2 ∨ k = 3 ∨ k = 4 ∨ k = 5 ∨ k = 6 ∨ k = 7 by omega) with rfl | rfl | rfl | rfl | rfl | rfl | rfl | rfl <;> rfl
end
/-! the reference's memory: a value -/
abbrev rCs (G : Nat → Int) (gr n c gw m d : Nat) : Array Value := #[.int .u32 (G 0), .int .u32 (G 1), .int .u32 (G 2), .int .u32 (G 3), .int .u32 (G 4), .int .u32 (G 5), .int .u32 (G 6), .int .u32 (G 7), .slice (some ⟨gr, 0, none⟩) n c, .slice (some ⟨gw, 0, none⟩) m d]
abbrev rV (G : Nat → Int) (gr n c gw m d : Nat) : Value := .agg (rCs G gr n c gw m d)
/-- the reference's pages lie in gr, its words in gw; the rooms c and d -/
structure Rm (w : World) (gr c gw d : Nat) (M : Mm) : Prop where
  row : Row w gr M.pg
  wr : Wr w gw M.ws
  c1 : M.pg.length ≤ c
  c2 : c ≤ maxLen
  d1 : M.ws.length ≤ d
  d2 : d ≤ maxLen
section
variable {w w' : World} {gr c gw d : Nat} {M : Mm}
theorem Rm.belowS (h : Rm w gr c gw d M) (hb : Below w.heap.size w w') : Rm w' gr c gw d M := ⟨h.row.belowS hb, h.wr.belowS hb, h.c1, h.c2, h.d1, h.d2⟩
theorem Rm.fr {S : Nat → Prop} (h : Rm w gr c gw d M) (hb : Fr S w w') (h1 : ¬ S gr) (h2 : ¬ S gw) : Rm w' gr c gw d M := ⟨h.row.fr hb h1, h.wr.fr hb h2, h.c1, h.c2, h.d1, h.d2⟩
theorem Rm.lt (h : Rm w gr c gw d M) : gr < w.heap.size ∧ gw < w.heap.size := ⟨h.row.lt, h.wr.lt⟩
theorem Rm.far (h : Rm w gr c gw d M) {p : Addr} (h1 : gr ≠ p.block) (h2 : gw ≠ p.block) (u : Value) : Rm (w.setCell p u) gr c gw d M := ⟨h.row.far h1 u, h.wr.far h2 u, h.c1, h.c2, h.d1, h.d2⟩
end
theorem setG_rcs (G : Nat → Int) (gr n c gw m d k : Nat) (hk : k < 8) (x : Int) : (rCs G gr n c gw m d).setIfInBounds k (.int .u32 x) = rCs (setG G k x) gr n c gw m d := by
  rcases (show k = 0 ∨ k = 1 ∨ k = 2 ∨ k = 3 ∨ k = 4 ∨ k = 5 ∨ k = 6 ∨ k = 7 by omega) with rfl | rfl | rfl | rfl | rfl | rfl | rfl | rfl <;> rfl
/-- a box with the reference's memory: its cells -/
theorem box_cells {w : World} {b : Nat} {G : Nat → Int} {gr n c gw m d : Nat} (h : Whole w b 36 (rCs G gr n c gw m d)) :
    w.cell? ⟨b, 0, none⟩ = some (.int .u32 (G 0)) ∧ w.cell? ⟨b, 1, none⟩ = some (.int .u32 (G 1)) ∧ w.cell? ⟨b, 2, none⟩ = some (.int .u32 (G 2)) ∧ w.cell? ⟨b, 3, none⟩ = some (.int .u32 (G 3)) ∧ w.cell? ⟨b, 4, none⟩ = some (.int .u32 (G 4)) ∧ w.cell? ⟨b, 5, none⟩ = some (.int .u32 (G 5)) ∧
    w.cell? ⟨b, 6, none⟩ = some (.int .u32 (G 6)) ∧ w.cell? ⟨b, 7, none⟩ = some (.int .u32 (G 7)) ∧ w.cell? ⟨b, 8, none⟩ = some (.slice (some ⟨gr, 0, none⟩) n c) ∧ w.cell? ⟨b, 9, none⟩ = some (.slice (some ⟨gw, 0, none⟩) m d) :=
  ⟨h.cell 0, h.cell 1, h.cell 2, h.cell 3, h.cell 4, h.cell 5, h.cell 6, h.cell 7, h.cell 8, h.cell 9⟩
end Go.Proofs.YtihcellcdkhadaaGreat.MR

/-
  What needs no memory: numbers of pages, gates, slots; what the reference tells out of its own value. Nothing here is a statement of the seed.
-/
namespace Go.Proofs.YtihcellcdkhadaaGreat.MF
open Go.RowKit PM PR PF MM MR

theorem pageOf_any (a : Int) (h : 0 ≤ a ∧ a ≤ 4294967295) (w : World) : Calls Tryz.prog 95 #[.int .u32 a] w fun e w' => e = .returned (.int .i64 (pageOf a)) ∧ w = w' := by
  obtain ⟨h1, h2⟩ := h
  unfold pageOf
  by_cases h3 : a < 80
  · rw [if_pos (Or.inl h3)]
    go_enter Tryz.func95, Tryz.ntmps95
    go_wp2_with fail
    go_ret
    exact ⟨rfl, rfl⟩
  · by_cases h4 : 4176 ≤ a
    · rw [if_pos (Or.inr h4)]
      go_enter Tryz.func95, Tryz.ntmps95
      go_wp2_with fail
      go_ret
      exact ⟨rfl, rfl⟩
    · rw [if_neg (by omega)]
      obtain ⟨b, rfl⟩ : ∃ b, a = b + 80 := ⟨a - 80, by omega⟩
      rw [show b + 80 - 80 = b by omega]
      have h5 : 0 ≤ b := by omega
      have h6 : b < 4096 := by omega
      go_enter Tryz.func95, Tryz.ntmps95
      go_wp2_with fail
      go_ret
      exact ⟨ret_int (by go_num), rfl⟩
theorem refPageOf_any (a : Int) (h : 0 ≤ a ∧ a ≤ 4294967295) (w : World) : Calls Tryz.prog 60 #[.int .u32 a] w fun e w' => e = .returned (.int .i64 (pageOf a)) ∧ w = w' := by
  obtain ⟨h1, h2⟩ := h
  unfold pageOf
  by_cases h3 : a < 80
  · rw [if_pos (Or.inl h3)]
    go_enter Tryz.func60, Tryz.ntmps60
    go_wp2_with fail
    go_ret
    exact ⟨rfl, rfl⟩
  · by_cases h4 : 4176 ≤ a
    · rw [if_pos (Or.inr h4)]
      go_enter Tryz.func60, Tryz.ntmps60
      go_wp2_with fail
      go_ret
      exact ⟨rfl, rfl⟩
    · rw [if_neg (by omega)]
      obtain ⟨b, rfl⟩ : ∃ b, a = b + 80 := ⟨a - 80, by omega⟩
      rw [show b + 80 - 80 = b by omega]
      have h5 : 0 ≤ b := by omega
      have h6 : b < 4096 := by omega
      go_enter Tryz.func60, Tryz.ntmps60
      go_wp2_with fail
      go_ret
      exact ⟨ret_int (by go_num), rfl⟩
theorem isGate_any (g : Int) (w : World) : Calls Tryz.prog 66 #[.int .i64 g] w fun e w' => e = .returned (.bool (decide (0 ≤ g ∧ g < 8))) ∧ w = w' := by
  by_cases h : 0 ≤ g
  · rw [show decide (0 ≤ g ∧ g < 8) = decide (g < 8) by simp [h]]
    go_enter Tryz.func66, Tryz.ntmps66
    go_wp2_with fail
    go_ret
    exact ⟨rfl, rfl⟩
  · rw [show decide (0 ≤ g ∧ g < 8) = false by simp [h]]
    go_enter Tryz.func66, Tryz.ntmps66
    go_wp2_with fail
    go_ret
    exact ⟨rfl, rfl⟩
theorem slot_good {k : Int} (h : 0 ≤ k ∧ k < 64) : IM.InsOk 21 0 0 0 k := by unfold IM.InsOk; omega
theorem enc_says (k : Int) (h : 0 ≤ k ∧ k < 64) : Says Tryz.prog 73 #[.agg #[.int .u8 21, .int .u8 0, .int .u8 0, .int .u8 0, .int .i32 k]] (.tuple #[.int .u32 (slotW k), .int .i64 0]) := IF.encode_yes 21 0 0 0 k (slot_good h)
theorem refEnc_says (k : Int) (h : 0 ≤ k ∧ k < 64) : Says Tryz.prog 89 #[.agg #[.int .u8 21, .int .u8 0, .int .u8 0, .int .u8 0, .int .i32 k]] (.tuple #[.int .u32 (slotW k), .int .i64 0]) := IF.refEncode_yes 21 0 0 0 k (slot_good h)
theorem slot_any (k : Int) (h : 0 ≤ k ∧ k < 64) : Says Tryz.prog 70 #[.int .u32 k] (.int .u32 (slotW k)) := by
  intro w
  have C := Lib.hid (enc_says k h)
  obtain ⟨h1, h2⟩ := h
  generalize slotW k = s at *
  go_enter Tryz.func70, Tryz.ntmps70
  go_wp2_with (go_at_call 73; (with_reducible refine (C.out.at _).mono ?_); rintro e w1 ⟨rfl, hb⟩)
  go_ret
  exact ⟨rfl, hb⟩
theorem refSize_any (G : Nat → Int) (gr n c gw m d : Nat) (hm : m ≤ 4096) : Says Tryz.prog 44 #[rV G gr n c gw m d] (.int .i64 (80 + (m : Int))) := by
  intro w
  have hm1 : (m : Int) ≤ 4096 := by omega
  have hm0 : (0 : Int) ≤ m := by omega
  go_enter Tryz.func44, Tryz.ntmps44
  go_wp2_with fail
  go_ret
  exact ⟨ret_int (by go_num), below_new _ _⟩
theorem refThere_any (G : Nat → Int) (gr n c gw m d : Nat) (hm : m ≤ 4096) (a : Int) (h : 0 ≤ a ∧ a ≤ 4294967295) : Says Tryz.prog 58 #[rV G gr n c gw m d, .int .u32 a] (.bool (decide (80 ≤ a ∧ a < 80 + (m : Int)))) := by
  intro w
  have C := Lib.hid (refSize_any G gr n c gw m d hm)
  have hm1 : (m : Int) ≤ 4096 := by omega
  have hm0 : (0 : Int) ≤ m := by omega
  obtain ⟨h1, h2⟩ := h
  by_cases h3 : 80 ≤ a
  · rw [show decide (80 ≤ a ∧ a < 80 + (m : Int)) = decide (a < 80 + (m : Int)) by simp [h3]]
    generalize (m : Int) = M at *
    go_enter Tryz.func58, Tryz.ntmps58
    go_wp2_with (go_at_call 44; (with_reducible refine (C.out.at _).mono ?_); rintro e w1 ⟨rfl, hb⟩)
    go_ret
    exact ⟨ret_bool (by go_num), (below_new _ _).trans (hb.mono (by simp))⟩
  · rw [show decide (80 ≤ a ∧ a < 80 + (m : Int)) = false by simp [h3]]
    go_enter Tryz.func58, Tryz.ntmps58
    go_wp2_with fail
    go_ret
    exact ⟨rfl, below_new _ _⟩
theorem refGate_any (G : Nat → Int) (gr n c gw m d : Nat) (g : Int) : Says Tryz.prog 42 #[rV G gr n c gw m d, .int .i64 g] (.int .u32 (if g < 0 ∨ 8 ≤ g then 0 else G g.toNat)) := by
  intro w
  by_cases h1 : g < 0
  · rw [if_pos (Or.inl h1)]
    go_enter Tryz.func42, Tryz.ntmps42
    go_wp2_with fail
    go_ret
    exact ⟨rfl, below_new _ _⟩
  · by_cases h2 : 8 ≤ g
    · rw [if_pos (Or.inr h2)]
      have h3 : 7 < g := by omega
      go_enter Tryz.func42, Tryz.ntmps42
      go_wp2_with fail
      go_ret
      exact ⟨rfl, below_new _ _⟩
    · rw [if_neg (by omega)]
      rcases (show g = 0 ∨ g = 1 ∨ g = 2 ∨ g = 3 ∨ g = 4 ∨ g = 5 ∨ g = 6 ∨ g = 7 by omega) with rfl | rfl | rfl | rfl | rfl | rfl | rfl | rfl <;> clear h1 h2
      all_goals
        go_enter Tryz.func42, Tryz.ntmps42
        go_wp2_with fail
        go_ret
        exact ⟨rfl, below_new _ _⟩
end Go.Proofs.YtihcellcdkhadaaGreat.MF

/-
  Where a word lies: a page's words, cut out; the page and the word's place. Nothing here is a statement of the seed.
-/
namespace Go.Proofs.YtihcellcdkhadaaGreat.MF
open Go.RowKit PM PR PF MM MR

theorem wrap32_small (x : Int) (h0 : 0 ≤ x) (h : x < 4294967296) : IntKind.u32.wrap x = x := by
  unfold IntKind.wrap
  simp [IntKind.bits, IntKind.signed]
  omega
theorem below_drew_next {W w2 : World} (h : Below W.drew.heap.size W.drew w2) : Below W.heap.size W w2 := (Below.refl _ _).drew.trans (h.mono (Nat.le_refl _))
section
variable {w : World} {p t g gw : Nat} {M : Mm}
theorem cut_nil (i : Int) (w : World) : Calls Tryz.prog 96 #[.pointer none, .int .i64 i] w fun e w' => e = .returned (.slice none 0 0) ∧ w = w' := by
  go_enter Tryz.func96, Tryz.ntmps96
  go_wp2_with fail
  go_ret
  exact ⟨rfl, rfl⟩
theorem cut_no (h : Pm w p t g gw M) (i : Int) (hi : i < 0 ∨ (M.pg.length : Int) ≤ i) : Calls Tryz.prog 96 #[.pointer (some ⟨p, 0, none⟩), .int .i64 i] w fun e w' => e = .returned (.slice none 0 0) ∧ w = w' := by
  obtain ⟨d, h4, hd1, hd2, c8, c9, _, _⟩ := h.cells
  have h16 := h.ok.w16
  have hp := h.ok.p256
  clear h
  by_cases h0 : i < 0
  · clear c9 h16
    go_enter Tryz.func96, Tryz.ntmps96
    go_wp2_with fail
    go_ret
    exact ⟨rfl, rfl⟩
  · have hi2 : (M.pg.length : Int) ≤ i := by omega
    rw [h16] at c9
    generalize M.pg.length = n at *
    have hn : (n : Int) ≤ 256 := by omega
    have hn0 : (0 : Int) ≤ n := by omega
    go_enter Tryz.func96, Tryz.ntmps96
    go_wp2_with fail
    go_ret
    exact ⟨rfl, rfl⟩
theorem cut_yes (h : Pm w p t g gw M) (i : Nat) (hi : i < M.pg.length) : Calls Tryz.prog 96 #[.pointer (some ⟨p, 0, none⟩), .int .i64 (i : Int)] w fun e w' => e = .returned (.slice (some ⟨gw, i * 16, none⟩) 16 16) ∧ w = w' := by
  obtain ⟨d, h4, hd1, hd2, c8, c9, _, _⟩ := h.cells
  have h16 := h.ok.w16
  have hp := h.ok.p256
  clear h
  rw [h16] at c9 hd1
  generalize M.pg.length = n at *
  have hn : (n : Int) ≤ 256 := by omega
  have hn0 : (0 : Int) ≤ n := by omega
  have hi1 : (i : Int) < n := by omega
  have hi0 : (0 : Int) ≤ i := by omega
  clear h16 h4
  unfold maxLen at hd2
  go_enter Tryz.func96, Tryz.ntmps96
  go_wp2_with fail
  go_ret
  exact ⟨by show Ending.returned (Value.slice (some ⟨gw, i * 16, none⟩) (i * 16 + 16 - i * 16) (i * 16 + 16 - i * 16)) = _; rw [show i * 16 + 16 - i * 16 = 16 by omega], rfl⟩
theorem find_nil (a : Int) (ha : 0 ≤ a ∧ a ≤ 4294967295) (w : World) : Calls Tryz.prog 57 #[.pointer none, .int .u32 a] w fun e w' => e = .returned (.tuple #[pgV 0 false false 0 0, .pointer none]) ∧ Below w.heap.size w w' := by
  have CP := Lib.hid (fun w => pageOf_any a ha w)
  generalize pageOf a = i at *
  have CC := Lib.hid (fun w => cut_nil i w)
  go_enter Tryz.func57, Tryz.ntmps57
  go_wp2_with (first | (go_at_call 95; (with_reducible refine (CP.out _).mono ?_); rintro e w1 ⟨rfl, rfl⟩) | (go_at_call 96; (with_reducible refine (CC.out _).mono ?_); rintro e w1 ⟨rfl, rfl⟩))
  exact bodyPost_ret (v := .tuple #[pgV 0 false false 0 0, .pointer none]) (by simp [results, Tryz.results57, go_sem]) rfl ⟨rfl, below_new _ _⟩
theorem find_no (h : Pm w p t g gw M) (a : Int) (ha : 0 ≤ a ∧ a ≤ 4294967295) (hn : thereB M a = false) : Calls Tryz.prog 57 #[.pointer (some ⟨p, 0, none⟩), .int .u32 a] w fun e w' => e = .returned (.tuple #[pgV 0 false false 0 0, .pointer none]) ∧ Below w.heap.size w w' := by
  have CP := Lib.hid (fun w => pageOf_any a ha w)
  have hi := not_there h.ok hn ha.1
  have CC := Lib.hid (fun u (hb : Below w.heap.size w u) => cut_no (h.belowS hb) (pageOf a) hi)
  clear hi hn h
  generalize pageOf a = i at *
  go_enter Tryz.func57, Tryz.ntmps57
  go_wp2_with (first | (go_at_call 95; (with_reducible refine (CP.out _).mono ?_); rintro e w1 ⟨rfl, rfl⟩) | (go_at_call 96; (with_reducible refine (CC.out _ (below_new _ _)).mono ?_); rintro e w1 ⟨rfl, rfl⟩))
  exact bodyPost_ret (v := .tuple #[pgV 0 false false 0 0, .pointer none]) (by simp [results, Tryz.results57, go_sem]) rfl ⟨rfl, below_new _ _⟩
set_option maxHeartbeats 1000000 in
theorem find_yes (h : Pm w p t g gw M) (i j : Nat) (hi : i < M.pg.length) (hj : j < 16) : Calls Tryz.prog 57 #[.pointer (some ⟨p, 0, none⟩), .int .u32 (80 + ((i : Int) * 16 + j))] w fun e w' =>
    e = .returned (.tuple #[pV (M.pg.getD i zero), .pointer (some ⟨gw, i * 16 + j, none⟩)]) ∧ Below w.heap.size w w' := by
  have h256 := h.ok.p256
  have ha : 0 ≤ 80 + ((i : Int) * 16 + j) ∧ 80 + ((i : Int) * 16 + j) ≤ 4294967295 := by omega
  have CP := Lib.hid (fun w => pageOf_any _ ha w)
  rw [show pageOf (80 + ((i : Int) * 16 + j)) = (i : Int) by unfold pageOf; rw [if_neg (by omega)]; omega] at CP
  have CC := Lib.hid (fun u (hb : Below w.heap.size w u) => cut_yes (h.belowS hb) i hi)
  have CG := Lib.hid (fun u (hb : Below w.heap.size w u) => get_tb (h.belowS hb).tb (i : Int))
  rw [show gP M.pg (i : Int) = M.pg.getD i zero by unfold gP; rw [if_neg (by omega)]; rfl] at CG
  generalize M.pg.getD i zero = q at *
  obtain ⟨st, ex, wr, ow, ep⟩ := q
  show Calls _ _ _ _ fun e w' => e = .returned (.tuple #[pgV st ex wr ow ep, _]) ∧ _
  change Hid (∀ u, Below w.heap.size w u → Calls _ _ _ u fun e w' => e = .returned (pgV st ex wr ow ep) ∧ _) at CG
  obtain ⟨d, h4, hd1, hd2, c8, c9, _, _⟩ := h.cells
  have hplt := h.lt.1
  have hi0 : (0 : Int) ≤ i := by omega
  have hi1 : (i : Int) < 256 := by omega
  have hj0 : (0 : Int) ≤ j := by omega
  have hj1 : (j : Int) < 16 := by omega
  have hm1 : IntKind.u32.wrap (80 + ((i : Int) * 16 + j) - 80) = i * 16 + j := wrap32_small _ (by omega) (by omega) |>.trans (by omega)
  have hm2 : ((i : Int) * 16 + j).tmod 16 = j := by rw [Int.tmod_eq_emod_of_nonneg (by omega)]; omega
  clear h hd1 hd2 c9 h4 h256 hi hj ha
  go_enter Tryz.func57, Tryz.ntmps57
  go_wp2_with (first | (go_at_call 95; (with_reducible refine (CP.out _).mono ?_); rintro e w1 ⟨rfl, rfl⟩) | (go_at_call 96; (with_reducible refine (CC.out _ (below_new _ _)).mono ?_); rintro e w1 ⟨rfl, rfl⟩))
  have hW := Whole.new w 107 #[.int .u8 0, .bool false, .bool false, .int .u16 0, .int .u64 0]
  have hb0 := below_new w (.cells #[.int .u8 0, .bool false, .bool false, .int .u16 0, .int .u64 0] 107)
  generalize hWW : w.alloc (.cells #[.int .u8 0, .bool false, .bool false, .int .u16 0, .int .u64 0] 107) = W at *
  have c8' : W.cell? ⟨p, 8, none⟩ = some (.pointer (some ⟨t, 0, none⟩)) := (hb0.cell (p := ⟨p, 8, none⟩) hplt).trans c8
  have hbd : Below w.heap.size w W.drew := hb0.drew
  clear hWW c8 CP CC
  go_region_with (go_at_call 97; (with_reducible refine (CG.out _ hbd).mono ?_); rintro e w2 ⟨rfl, hb2⟩; have hb9 := below_drew_next hb2; have hW2 := hW.belowS hb9; have B2 := Lib.hid (below_of hb0 hb9); have e0 := hW2.cell 0; have e1 := hW2.cell 1; have e2 := hW2.cell 2; have e3 := hW2.cell 3; have e4 := hW2.cell 4; have f0 := hW2.frozen 0; have f1 := hW2.frozen 1; have f2 := hW2.frozen 2; have f3 := hW2.frozen 3; have f4 := hW2.frozen 4; simp only [List.getElem?_toArray, List.getElem?_cons_zero, List.getElem?_cons_succ] at e0 e1 e2 e3 e4; have hlt2 := hW2.lt; clear hb2 hb9)
  all_goals
    go_wp2_with fail
    refine bodyPost_ret (v := .tuple #[pgV st ex wr ow ep, .pointer (some ⟨gw, i * 16 + j, none⟩)]) (by simp [results, Tryz.results57, go_sem, e0, e1, e2, e3, e4, hlt2]) rfl ?_
    exact ⟨rfl, ((((B2.out.setCell (Nat.le_refl _) _).setCell (Nat.le_refl _) _).setCell (Nat.le_refl _) _).setCell (Nat.le_refl _) _).setCell (Nat.le_refl _) _⟩
end
end Go.Proofs.YtihcellcdkhadaaGreat.MF

/-
  The program's memory: what is asked of it, and what turns it. Nothing here is a statement of the seed.
-/
namespace Go.Proofs.YtihcellcdkhadaaGreat.MF
open Go.RowKit PM PR PF MM MR

section
variable {w : World} {p t g gw : Nat} {M : Mm}
theorem there_at {a : Int} (h : thereB M a = true) : 80 ≤ a ∧ (a - 80).toNat < M.ws.length := by
  unfold thereB at h
  rw [decide_eq_true_eq] at h
  omega
theorem find_there (h : Pm w p t g gw M) (a : Int) (ha : thereB M a = true) : Calls Tryz.prog 57 #[.pointer (some ⟨p, 0, none⟩), .int .u32 a] w fun e w' =>
    e = .returned (.tuple #[pV (pageAt M a), .pointer (some ⟨gw, (a - 80).toNat, none⟩)]) ∧ Below w.heap.size w w' := by
  obtain ⟨h0, h1⟩ := there_at ha
  obtain ⟨h2, h3, h4⟩ := there_page h.ok ha
  have C := find_yes h ((a - 80) / 16).toNat ((a - 80) % 16).toNat (by omega) (by omega)
  rw [show 80 + ((((a - 80) / 16).toNat : Int) * 16 + ((a - 80) % 16).toNat) = a by omega, show ((a - 80) / 16).toNat * 16 + ((a - 80) % 16).toNat = (a - 80).toNat by omega] at C
  rw [show M.pg.getD ((a - 80) / 16).toNat zero = pageAt M a by unfold pageAt gPm; rw [if_neg (by omega), h4]] at C
  exact C
theorem size_any (h : Pm w p t g gw M) : Calls Tryz.prog 47 #[.pointer (some ⟨p, 0, none⟩)] w fun e w' => e = .returned (.int .i64 (80 + (M.ws.length : Int))) ∧ w = w' := by
  obtain ⟨d, h4, hd1, hd2, c8, c9, _, _⟩ := h.cells
  clear h
  generalize M.ws.length = m at *
  have hm : (m : Int) ≤ 4096 := by omega
  have hm0 : (0 : Int) ≤ m := by omega
  go_enter Tryz.func47, Tryz.ntmps47
  go_wp2_with fail
  go_ret
  exact ⟨ret_int (by go_num), rfl⟩
theorem pages_any (h : Pm w p t g gw M) : Calls Tryz.prog 16 #[.pointer (some ⟨p, 0, none⟩)] w fun e w' => e = .returned (.pointer (some ⟨t, 0, none⟩)) ∧ w = w' := by
  obtain ⟨d, h4, hd1, hd2, c8, c9, _, _⟩ := h.cells
  clear h
  go_enter Tryz.func16, Tryz.ntmps16
  go_wp2_with fail
  go_ret
  exact ⟨rfl, rfl⟩
theorem gate_any (h : Pm w p t g gw M) (i : Int) : Calls Tryz.prog 109 #[.pointer (some ⟨p, 0, none⟩), .int .i64 i] w fun e w' => e = .returned (.int .u32 (gate M i)) ∧ w = w' := by
  obtain ⟨d, h4, hd1, hd2, c8, c9, ck, _⟩ := h.cells
  clear h
  have C := Lib.hid (fun w => isGate_any i w)
  unfold gate
  by_cases hi : 0 ≤ i ∧ i < 8
  · rw [if_neg (by omega)]
    rw [decide_eq_true hi] at C
    obtain ⟨k, rfl⟩ := Int.eq_ofNat_of_zero_le hi.1
    have hk := ck k (by omega)
    rw [show (k : Int).toNat = k from rfl]
    have hk1 : (k : Int) < 8 := hi.2
    have hk0 : (0 : Int) ≤ k := hi.1
    clear ck hi
    generalize M.gt k = x at *
    go_enter Tryz.func109, Tryz.ntmps109
    go_wp2_with (go_at_call 66; (with_reducible refine (C.out _).mono ?_); rintro e w1 ⟨rfl, rfl⟩)
    go_ret
    exact ⟨rfl, rfl⟩
  · rw [if_pos (by omega)]
    rw [decide_eq_false hi] at C
    clear ck hi
    go_enter Tryz.func109, Tryz.ntmps109
    go_wp2_with (go_at_call 66; (with_reducible refine (C.out _).mono ?_); rintro e w1 ⟨rfl, rfl⟩)
    go_ret
    exact ⟨rfl, rfl⟩
/-- a call turns a memory: its answer, the memory behind it, what else stays -/
def MTurns (p t g gw : Nat) (x : Value) (M' : Mm) (w : World) (e : Ending) (w' : World) : Prop := e = .returned x ∧ Fr (MS p g gw) w w' ∧ Pm w' p t g gw M'
theorem setGate_any (h : Pm w p t g gw M) (i b : Int) : Calls Tryz.prog 23 #[.pointer (some ⟨p, 0, none⟩), .int .i64 i, .int .u32 b] w (MTurns p t g gw (.int .i64 (setE i)) (setM M i b) w) := by
  obtain ⟨d, h4, hd1, hd2, c8, c9, ck, fk⟩ := h.cells
  have C := Lib.hid (fun w => isGate_any i w)
  have H := Lib.hid h
  unfold setM setE
  by_cases hi : 0 ≤ i ∧ i < 8
  · rw [if_neg (by omega), if_pos rfl]
    rw [decide_eq_true hi] at C
    obtain ⟨k, rfl⟩ := Int.eq_ofNat_of_zero_le hi.1
    have hk := ck k (by omega)
    have hf := fk k
    rw [show (k : Int).toNat = k from rfl]
    have hk1 : (k : Int) < 8 := hi.2
    have hk0 : (0 : Int) ≤ k := hi.1
    clear ck hi fk h
    have HP := Lib.hid (H.out.gate (k := k) (by omega) b)
    generalize setG M.gt k b = x at *
    go_enter Tryz.func23, Tryz.ntmps23
    go_wp2_with (go_at_call 66; (with_reducible refine (C.out _).mono ?_); rintro e w1 ⟨rfl, rfl⟩)
    go_ret
    exact ⟨rfl, (Fr.refl _ _).set (Or.inl (Or.inl rfl)) _, HP.out⟩
  · rw [if_pos (by omega), if_neg (by omega)]
    rw [decide_eq_false hi] at C
    clear ck hi fk h
    go_enter Tryz.func23, Tryz.ntmps23
    go_wp2_with (go_at_call 66; (with_reducible refine (C.out _).mono ?_); rintro e w1 ⟨rfl, rfl⟩)
    go_ret
    exact ⟨rfl, Fr.refl _ _, H.out⟩
theorem word_cell (h : Pm w p t g gw M) {a : Int} (ha : thereB M a = true) : w.cell? ⟨gw, (a - 80).toNat, none⟩ = some (.int .u32 (word M a)) ∧ w.frozen? ⟨gw, (a - 80).toNat, none⟩ = false :=
  ⟨h.wr.cell (there_at ha).2, h.wr.frozen _⟩
theorem peek_any (h : Pm w p t g gw M) (a : Int) (ha : 0 ≤ a ∧ a ≤ 4294967295) : Calls Tryz.prog 45 #[.pointer (some ⟨p, 0, none⟩), .int .u32 a] w fun e w' => e = .returned (.int .u32 (peek M a)) ∧ Below w.heap.size w w' := by
  obtain ⟨d, h4, hd1, hd2, c8, c9, ck, fk⟩ := h.cells
  have hgw := h.lt.2.2.2
  unfold peek
  obtain ⟨ha0, ha1⟩ := ha
  by_cases h1 : a < 64
  · rw [if_pos h1]
    have C := Lib.hid (slot_any a ⟨ha0, h1⟩)
    clear h ck fk
    generalize slotW a = x at *
    go_enter Tryz.func45, Tryz.ntmps45
    go_wp2_with (go_at_call 70; (with_reducible refine (C.out.at _).mono ?_); rintro e w1 ⟨rfl, hb⟩)
    go_ret
    exact ⟨rfl, hb⟩
  · rw [if_neg h1]
    by_cases h2 : a < 72
    · rw [if_pos h2]
      obtain ⟨k, rfl⟩ : ∃ k : Nat, a = 64 + k := ⟨(a - 64).toNat, by omega⟩
      rw [show ((64 + (k : Int)) - 64).toNat = k by omega]
      have hk := ck k (by omega)
      have hk1 : (k : Int) < 8 := by omega
      have hk0 : (0 : Int) ≤ k := by omega
      clear h ck fk h1 h2 ha0 ha1
      generalize M.gt k = x at *
      go_enter Tryz.func45, Tryz.ntmps45
      go_wp2_with fail
      go_ret
      exact ⟨rfl, Below.refl _ _⟩
    · rw [if_neg h2]
      cases ht : thereB M a
      · rw [if_neg (by decide)]
        have C := Lib.hid (find_no h a ⟨ha0, ha1⟩ ht)
        clear h ck fk ht
        go_enter Tryz.func45, Tryz.ntmps45
        go_wp2_with (go_at_call 57; (with_reducible refine C.out.mono ?_); rintro e w1 ⟨rfl, hb⟩)
        go_ret
        exact ⟨rfl, hb.trans (below_new _ _ |>.mono hb.size)⟩
      · rw [if_pos rfl]
        have C := Lib.hid (find_there h a ht)
        obtain ⟨cw, fw⟩ := word_cell h ht
        clear h ck fk ht
        generalize word M a = x at *
        generalize pageAt M a = q at *
        generalize (a - 80).toNat = k at *
        obtain ⟨st, ex, wr, ow, ep⟩ := q
        change Hid (Calls _ _ _ _ fun e w' => e = .returned (.tuple #[pgV st ex wr ow ep, _]) ∧ _) at C
        go_enter Tryz.func45, Tryz.ntmps45
        go_wp2_with (go_at_call 57; (with_reducible refine C.out.mono ?_); rintro e w1 ⟨rfl, hb⟩; have cw1 := (hb.cell (p := ⟨gw, k, none⟩) hgw).trans cw; have hl1 := Nat.lt_of_lt_of_le hgw hb.size)
        go_ret
        exact ⟨rfl, hb.trans (below_new _ _ |>.mono hb.size)⟩
end

section
variable {w : World} {p t g gw : Nat} {M : Mm}
theorem end_alloc' {w w' : World} {o : Obj} (h : Below (w.alloc o).heap.size (w.alloc o) w') : Below w.heap.size w w' := (below_new w o).trans (h.mono (by simp))
theorem set_end {w1 : World} (h : Pm w p t g gw M) {a : Int} (ha : thereB M a = true) (hb : Below w.heap.size w w1) (o : Obj) (x : Int) : Fr (MS p g gw) w ((w1.setCell ⟨gw, (a - 80).toNat, none⟩ (.int .u32 x)).alloc o) ∧ Pm ((w1.setCell ⟨gw, (a - 80).toNat, none⟩ (.int .u32 x)).alloc o) p t g gw (setW M a x) :=
  ⟨((Fr.of_below hb).set (Or.inl (Or.inr (Or.inr rfl))) _).alloc _, ((h.belowS hb).word (there_at ha).2 x).belowS (below_new _ _)⟩
theorem set_end2 {w1 w2 : World} (h : Pm w p t g gw M) {a : Int} (ha : thereB M a = true) (hb : Below w.heap.size w w1) (o : Obj) (hb2 : Below (w1.alloc o).heap.size (w1.alloc o) w2) (x : Int) : Fr (MS p g gw) w (w2.setCell ⟨gw, (a - 80).toNat, none⟩ (.int .u32 x)) ∧ Pm (w2.setCell ⟨gw, (a - 80).toNat, none⟩ (.int .u32 x)) p t g gw (setW M a x) :=
  ⟨(((Fr.of_below hb).alloc _).then hb2).set (Or.inl (Or.inr (Or.inr rfl))) _, (((h.belowS hb).belowS (below_new _ _)).belowS hb2).word (there_at ha).2 x⟩
theorem put_any (h : Pm w p t g gw M) (a x : Int) (ha : 0 ≤ a ∧ a ≤ 4294967295) : Calls Tryz.prog 19 #[.pointer (some ⟨p, 0, none⟩), .int .u32 a, .int .u32 x] w (MTurns p t g gw (.int .i64 (putE M a)) (putM M a x) w) := by
  have hgw := h.lt.2.2.2
  have H := Lib.hid h
  unfold putM putE
  cases ht : thereB M a
  · simp only [Bool.false_eq_true, if_false]
    have C := Lib.hid (find_no h a ha ht)
    rw [if_neg (by omega)]
    clear h ht
    go_enter Tryz.func19, Tryz.ntmps19
    go_wp2_with (go_at_call 57; (with_reducible refine C.out.mono ?_); rintro e w1 ⟨rfl, hb⟩)
    go_ret
    exact ⟨rfl, (Fr.of_below hb).alloc _, (H.out.belowS hb).belowS (below_new _ _)⟩
  · simp only [if_true]
    have C := Lib.hid (find_there h a ht)
    have E := Lib.hid (fun w1 hb o => set_end (w1 := w1) h ht hb o x)
    obtain ⟨cw, fw⟩ := word_cell h ht
    clear h ht
    generalize setW M a x = M' at *
    generalize word M a = y at *
    generalize pageAt M a = q at *
    generalize (a - 80).toNat = k at *
    obtain ⟨st, ex, wr, ow, ep⟩ := q
    change Hid (Calls _ _ _ _ fun e w' => e = .returned (.tuple #[pgV st ex wr ow ep, _]) ∧ _) at C
    show Calls _ _ _ _ (MTurns p t g gw (.int .i64 (if st = 1 then 0 else 9)) (if (if st = 1 then (0 : Int) else 9) = 0 then M' else M) w)
    by_cases hs : st = 1
    · subst hs
      rw [if_pos rfl, if_pos rfl]
      go_enter Tryz.func19, Tryz.ntmps19
      go_wp2_with (go_at_call 57; (with_reducible refine C.out.mono ?_); rintro e w1 ⟨rfl, hb⟩; have cw1 := (hb.cell (p := ⟨gw, k, none⟩) hgw).trans cw; have fw1 := (hb.frozen (p := ⟨gw, k, none⟩) hgw).trans fw; have hl1 := Nat.lt_of_lt_of_le hgw hb.size)
      go_ret
      exact ⟨rfl, E.out _ hb _⟩
    · rw [if_neg hs, if_neg (by omega)]
      have hs' : (st != 1) = true := by simpa using hs
      clear hs
      go_enter Tryz.func19, Tryz.ntmps19
      go_wp2_with (go_at_call 57; (with_reducible refine C.out.mono ?_); rintro e w1 ⟨rfl, hb⟩; have cw1 := (hb.cell (p := ⟨gw, k, none⟩) hgw).trans cw; have fw1 := (hb.frozen (p := ⟨gw, k, none⟩) hgw).trans fw; have hl1 := Nat.lt_of_lt_of_le hgw hb.size)
      go_ret
      exact ⟨rfl, (Fr.of_below hb).alloc _, (H.out.belowS hb).belowS (below_new _ _)⟩
theorem store_any (h : Pm w p t g gw M) (a x ep o : Int) (ha : 0 ≤ a ∧ a ≤ 4294967295) : Calls Tryz.prog 107 #[.pointer (some ⟨p, 0, none⟩), .int .u32 a, .int .u32 x, .int .u64 ep, .int .u16 o] w (MTurns p t g gw (.bool (stoB M a ep o)) (stoM M a x ep o) w) := by
  have hgw := h.lt.2.2.2
  have H := Lib.hid h
  unfold stoM stoB
  cases ht : thereB M a
  · simp only [Bool.false_and, Bool.false_eq_true, if_false]
    have C := Lib.hid (find_no h a ha ht)
    have CW := Lib.hid (writes_any zero ep o)
    rw [show writesB zero ep o = false from rfl] at CW
    change Hid (Says _ _ #[pgV 0 false false 0 0, _, _] _) at CW
    clear h ht
    go_enter Tryz.func107, Tryz.ntmps107
    go_wp2_with (first | (go_at_call 57; (with_reducible refine C.out.mono ?_); rintro e w1 ⟨rfl, hb⟩) | (go_at_call 123; (with_reducible refine (CW.out.at _).mono ?_); rintro e w2 ⟨rfl, hb2⟩))
    go_ret
    exact ⟨rfl, ((Fr.of_below hb).alloc _).then hb2, ((H.out.belowS hb).belowS (below_new _ _)).belowS hb2⟩
  · simp only [Bool.true_and]
    have C := Lib.hid (find_there h a ht)
    have CW := Lib.hid (writes_any (pageAt M a) ep o)
    have E := Lib.hid (fun w1 hb o w2 hb2 => set_end2 (w1 := w1) (w2 := w2) h ht hb o hb2 x)
    obtain ⟨cw, fw⟩ := word_cell h ht
    clear h ht
    generalize setW M a x = M' at *
    generalize word M a = y at *
    generalize writesB (pageAt M a) ep o = b at *
    generalize pageAt M a = q at *
    generalize (a - 80).toNat = k at *
    obtain ⟨st, ex, wr, ow, epp⟩ := q
    change Hid (Calls _ _ _ _ fun e w' => e = .returned (.tuple #[pgV st ex wr ow epp, _]) ∧ _) at C
    change Hid (Says _ _ #[pgV st ex wr ow epp, _, _] _) at CW
    cases b
    · simp only [Bool.false_eq_true, if_false]
      go_enter Tryz.func107, Tryz.ntmps107
      go_wp2_with (first | (go_at_call 57; (with_reducible refine C.out.mono ?_); rintro e w1 ⟨rfl, hb⟩) | (go_at_call 123; (with_reducible refine (CW.out.at _).mono ?_); rintro e w2 ⟨rfl, hb2⟩))
      go_ret
      exact ⟨rfl, ((Fr.of_below hb).alloc _).then hb2, ((H.out.belowS hb).belowS (below_new _ _)).belowS hb2⟩
    · simp only [if_true]
      go_enter Tryz.func107, Tryz.ntmps107
      go_wp2_with (first | (go_at_call 57; (with_reducible refine C.out.mono ?_); rintro e w1 ⟨rfl, hb⟩; have cw1 := (hb.cell (p := ⟨gw, k, none⟩) hgw).trans cw; have fw1 := (hb.frozen (p := ⟨gw, k, none⟩) hgw).trans fw; have hl1 := Nat.lt_of_lt_of_le hgw hb.size) | (go_at_call 123; (with_reducible refine (CW.out.at _).mono ?_); rintro e w2 ⟨rfl, hb2⟩; have cw2 := (hb2.cell (p := ⟨gw, k, none⟩) (by simp; omega)).trans (((below_new w1 _).cell (p := ⟨gw, k, none⟩) hl1).trans cw1); have fw2 := (hb2.frozen (p := ⟨gw, k, none⟩) (by simp; omega)).trans (((below_new w1 _).frozen (p := ⟨gw, k, none⟩) hl1).trans fw1)))
      go_ret
      exact ⟨rfl, E.out _ hb _ _ hb2⟩
theorem fetch_any (h : Pm w p t g gw M) (a ep : Int) (ha : 0 ≤ a ∧ a ≤ 4294967295) : Calls Tryz.prog 28 #[.pointer (some ⟨p, 0, none⟩), .int .u32 a, .int .u64 ep] w fun e w' =>
    e = .returned (.tuple #[.int .u32 (fetchW M a ep), .int .u16 (fetchO M a ep), .bool (fetchB M a ep)]) ∧ Below w.heap.size w w' := by
  have hgw := h.lt.2.2.2
  by_cases h1 : a < 64
  · rw [show fetchB M a ep = true by simp [fetchB, h1], show fetchO M a ep = 0 by simp [fetchO, h1], show fetchW M a ep = slotW a by simp [fetchW, fetchB, h1, peek]]
    have C := Lib.hid (slot_any a ⟨ha.1, h1⟩)
    obtain ⟨ha0, ha1⟩ := ha
    clear h
    generalize slotW a = x at *
    go_enter Tryz.func28, Tryz.ntmps28
    go_wp2_with (go_at_call 70; (with_reducible refine (C.out.at _).mono ?_); rintro e w1 ⟨rfl, hb⟩)
    exact bodyPost_ret (v := .tuple #[.int .u32 x, .int .u16 0, .bool true]) (by simp [results, Tryz.results28, go_sem]) rfl ⟨rfl, hb⟩
  · have hB : fetchB M a ep = (thereB M a && runsB (pageAt M a) ep) := by simp [fetchB, h1]
    unfold fetchW fetchO
    rw [if_neg h1, hB]
    cases ht : thereB M a
    · simp only [Bool.false_and, Bool.false_eq_true, if_false]
      have C := Lib.hid (find_no h a ha ht)
      have CW := Lib.hid (runs_any zero ep)
      rw [show runsB zero ep = false from rfl] at CW
      change Hid (Says _ _ #[pgV 0 false false 0 0, _] _) at CW
      clear h ht hB
      go_enter Tryz.func28, Tryz.ntmps28
      go_wp2_with (first | (go_at_call 57; (with_reducible refine C.out.mono ?_); rintro e w1 ⟨rfl, hb⟩) | (go_at_call 71; (with_reducible refine (CW.out.at _).mono ?_); rintro e w2 ⟨rfl, hb2⟩))
      exact bodyPost_ret (v := .tuple #[.int .u32 0, .int .u16 0, .bool false]) (by simp [results, Tryz.results28, go_sem]) rfl ⟨rfl, hb.trans ((end_alloc' hb2).mono hb.size)⟩
    · simp only [Bool.true_and]
      have C := Lib.hid (find_there h a ht)
      have CW := Lib.hid (runs_any (pageAt M a) ep)
      have hp : peek M a = word M a := by
        have := there_at ht
        unfold peek
        rw [if_neg h1, if_neg (by omega), if_pos ht]
      obtain ⟨cw, fw⟩ := word_cell h ht
      rw [hp]
      clear h ht hp hB
      generalize word M a = y at *
      generalize runsB (pageAt M a) ep = b at *
      generalize pageAt M a = q at *
      generalize (a - 80).toNat = k at *
      obtain ⟨st, ex, wr, ow, epp⟩ := q
      change Hid (Calls _ _ _ _ fun e w' => e = .returned (.tuple #[pgV st ex wr ow epp, _]) ∧ _) at C
      change Hid (Says _ _ #[pgV st ex wr ow epp, _] _) at CW
      cases b
      · simp only [Bool.false_eq_true, if_false]
        go_enter Tryz.func28, Tryz.ntmps28
        go_wp2_with (first | (go_at_call 57; (with_reducible refine C.out.mono ?_); rintro e w1 ⟨rfl, hb⟩) | (go_at_call 71; (with_reducible refine (CW.out.at _).mono ?_); rintro e w2 ⟨rfl, hb2⟩))
        exact bodyPost_ret (v := .tuple #[.int .u32 0, .int .u16 0, .bool false]) (by simp [results, Tryz.results28, go_sem]) rfl ⟨rfl, hb.trans ((end_alloc' hb2).mono hb.size)⟩
      · simp only [if_true]
        go_enter Tryz.func28, Tryz.ntmps28
        go_wp2_with (first | (go_at_call 57; (with_reducible refine C.out.mono ?_); rintro e w1 ⟨rfl, hb⟩; have cw1 := (hb.cell (p := ⟨gw, k, none⟩) hgw).trans cw; have hl1 := Nat.lt_of_lt_of_le hgw hb.size; have PW := Whole.new w1 107 #[.int .u8 st, .bool ex, .bool wr, .int .u16 ow, .int .u64 epp]) | (go_at_call 71; (with_reducible refine (CW.out.at _).mono ?_); rintro e w2 ⟨rfl, hb2⟩; have cw2 := (hb2.cell (p := ⟨gw, k, none⟩) (by simp; omega)).trans (((below_new w1 _).cell (p := ⟨gw, k, none⟩) hl1).trans cw1); have PW2 := PW.belowS hb2; have p3 := PW2.cell 3; simp only [List.getElem?_toArray, List.getElem?_cons_zero, List.getElem?_cons_succ] at p3))
        have hB2 := Lib.hid (hb.trans ((end_alloc' hb2).mono hb.size))
        clear hb2 PW
        go_region
        all_goals
          go_wp2_with fail
          exact bodyPost_ret (v := .tuple #[.int .u32 y, .int .u16 ow, .bool true]) (by simp [results, Tryz.results28, go_sem]) rfl ⟨rfl, hB2.out.drew⟩
end

section
variable {w : World} {p t g gw : Nat} {M : Mm}
theorem load_any (h : Pm w p t g gw M) (a ep : Int) (ha : 0 ≤ a ∧ a ≤ 4294967295) : Calls Tryz.prog 106 #[.pointer (some ⟨p, 0, none⟩), .int .u32 a, .int .u64 ep] w fun e w' =>
    e = .returned (.tuple #[.int .u32 (loadW M a ep), .bool (loadB M a ep)]) ∧ Below w.heap.size w w' := by
  have hgw := h.lt.2.2.2
  by_cases h1 : a < 80
  · rw [show loadB M a ep = true by simp [loadB, h1], show loadW M a ep = peek M a by simp [loadW, loadB, h1]]
    have C := Lib.hid (peek_any h a ha)
    obtain ⟨ha0, ha1⟩ := ha
    clear h
    generalize peek M a = x at *
    go_enter Tryz.func106, Tryz.ntmps106
    go_wp2_with (go_at_call 45; (with_reducible refine C.out.mono ?_); rintro e w1 ⟨rfl, hb⟩)
    exact bodyPost_ret (v := .tuple #[.int .u32 x, .bool true]) (by simp [results, Tryz.results106, go_sem]) rfl ⟨rfl, hb⟩
  · have hB : loadB M a ep = (thereB M a && seenB (pageAt M a) ep) := by simp [loadB, h1]
    unfold loadW
    rw [hB]
    cases ht : thereB M a
    · simp only [Bool.false_and, Bool.false_eq_true, if_false]
      have C := Lib.hid (find_no h a ha ht)
      have CW := Lib.hid (reads_any zero ep)
      rw [show seenB zero ep = false from rfl] at CW
      change Hid (Says _ _ #[pgV 0 false false 0 0, _] _) at CW
      clear h ht hB
      go_enter Tryz.func106, Tryz.ntmps106
      go_wp2_with (first | (go_at_call 57; (with_reducible refine C.out.mono ?_); rintro e w1 ⟨rfl, hb⟩) | (go_at_call 99; (with_reducible refine (CW.out.at _).mono ?_); rintro e w2 ⟨rfl, hb2⟩))
      exact bodyPost_ret (v := .tuple #[.int .u32 0, .bool false]) (by simp [results, Tryz.results106, go_sem]) rfl ⟨rfl, hb.trans ((end_alloc' hb2).mono hb.size)⟩
    · simp only [Bool.true_and]
      have C := Lib.hid (find_there h a ht)
      have CW := Lib.hid (reads_any (pageAt M a) ep)
      have hp : peek M a = word M a := by
        have := there_at ht
        unfold peek
        rw [if_neg (by omega), if_neg (by omega), if_pos ht]
      obtain ⟨cw, fw⟩ := word_cell h ht
      rw [hp]
      clear h ht hp hB
      generalize word M a = y at *
      generalize seenB (pageAt M a) ep = b at *
      generalize pageAt M a = q at *
      generalize (a - 80).toNat = k at *
      obtain ⟨st, ex, wr, ow, epp⟩ := q
      change Hid (Calls _ _ _ _ fun e w' => e = .returned (.tuple #[pgV st ex wr ow epp, _]) ∧ _) at C
      change Hid (Says _ _ #[pgV st ex wr ow epp, _] _) at CW
      cases b
      · simp only [Bool.false_eq_true, if_false]
        go_enter Tryz.func106, Tryz.ntmps106
        go_wp2_with (first | (go_at_call 57; (with_reducible refine C.out.mono ?_); rintro e w1 ⟨rfl, hb⟩) | (go_at_call 99; (with_reducible refine (CW.out.at _).mono ?_); rintro e w2 ⟨rfl, hb2⟩))
        exact bodyPost_ret (v := .tuple #[.int .u32 0, .bool false]) (by simp [results, Tryz.results106, go_sem]) rfl ⟨rfl, hb.trans ((end_alloc' hb2).mono hb.size)⟩
      · simp only [if_true]
        go_enter Tryz.func106, Tryz.ntmps106
        go_wp2_with (first | (go_at_call 57; (with_reducible refine C.out.mono ?_); rintro e w1 ⟨rfl, hb⟩; have cw1 := (hb.cell (p := ⟨gw, k, none⟩) hgw).trans cw; have hl1 := Nat.lt_of_lt_of_le hgw hb.size) | (go_at_call 99; (with_reducible refine (CW.out.at _).mono ?_); rintro e w2 ⟨rfl, hb2⟩; have cw2 := (hb2.cell (p := ⟨gw, k, none⟩) (by simp; omega)).trans (((below_new w1 _).cell (p := ⟨gw, k, none⟩) hl1).trans cw1)))
        exact bodyPost_ret (v := .tuple #[.int .u32 y, .bool true]) (by simp [results, Tryz.results106, go_sem]) rfl ⟨rfl, hb.trans ((end_alloc' hb2).mono hb.size)⟩
end
/-! none at all -/
theorem size_nil (w : World) : Calls Tryz.prog 47 #[.pointer none] w fun e w' => e = .returned (.int .i64 0) ∧ w = w' := by
  go_enter Tryz.func47, Tryz.ntmps47
  go_wp2_with fail
  go_ret
  exact ⟨rfl, rfl⟩
theorem pages_nil (w : World) : Calls Tryz.prog 16 #[.pointer none] w fun e w' => e = .returned (.pointer none) ∧ w = w' := by
  go_enter Tryz.func16, Tryz.ntmps16
  go_wp2_with fail
  go_ret
  exact ⟨rfl, rfl⟩
theorem peek_nil (a : Int) (w : World) : Calls Tryz.prog 45 #[.pointer none, .int .u32 a] w fun e w' => e = .returned (.int .u32 0) ∧ w = w' := by
  go_enter Tryz.func45, Tryz.ntmps45
  go_wp2_with fail
  go_ret
  exact ⟨rfl, rfl⟩
theorem gate_nil (a : Int) (w : World) : Calls Tryz.prog 109 #[.pointer none, .int .i64 a] w fun e w' => e = .returned (.int .u32 0) ∧ w = w' := by
  go_enter Tryz.func109, Tryz.ntmps109
  go_wp2_with fail
  go_ret
  exact ⟨rfl, rfl⟩
theorem fetch_nil (a ep : Int) (w : World) : Calls Tryz.prog 28 #[.pointer none, .int .u32 a, .int .u64 ep] w fun e w' => e = .returned (.tuple #[.int .u32 0, .int .u16 0, .bool false]) ∧ w = w' := by
  go_enter Tryz.func28, Tryz.ntmps28
  go_wp2_with fail
  exact bodyPost_ret (v := .tuple #[.int .u32 0, .int .u16 0, .bool false]) (by simp [results, Tryz.results28, go_sem]) rfl ⟨rfl, rfl⟩
theorem load_nil (a ep : Int) (w : World) : Calls Tryz.prog 106 #[.pointer none, .int .u32 a, .int .u64 ep] w fun e w' => e = .returned (.tuple #[.int .u32 0, .bool false]) ∧ w = w' := by
  go_enter Tryz.func106, Tryz.ntmps106
  go_wp2_with fail
  exact bodyPost_ret (v := .tuple #[.int .u32 0, .bool false]) (by simp [results, Tryz.results106, go_sem]) rfl ⟨rfl, rfl⟩
theorem put_nil (a x : Int) (w : World) : Calls Tryz.prog 19 #[.pointer none, .int .u32 a, .int .u32 x] w fun e w' => e = .returned (.int .i64 1) ∧ w = w' := by
  go_enter Tryz.func19, Tryz.ntmps19
  go_wp2_with fail
  go_ret
  exact ⟨rfl, rfl⟩
theorem setGate_nil (i b : Int) (w : World) : Calls Tryz.prog 23 #[.pointer none, .int .i64 i, .int .u32 b] w fun e w' => e = .returned (.int .i64 1) ∧ w = w' := by
  go_enter Tryz.func23, Tryz.ntmps23
  go_wp2_with fail
  go_ret
  exact ⟨rfl, rfl⟩
theorem store_nil (a x ep o : Int) (ha : 0 ≤ a ∧ a ≤ 4294967295) (w : World) : Calls Tryz.prog 107 #[.pointer none, .int .u32 a, .int .u32 x, .int .u64 ep, .int .u16 o] w fun e w' => e = .returned (.bool false) ∧ Below w.heap.size w w' := by
  have C := Lib.hid (find_nil a ha w)
  have CW := Lib.hid (writes_any zero ep o)
  rw [show writesB zero ep o = false from rfl] at CW
  change Hid (Says _ _ #[pgV 0 false false 0 0, _, _] _) at CW
  go_enter Tryz.func107, Tryz.ntmps107
  go_wp2_with (first | (go_at_call 57; (with_reducible refine C.out.mono ?_); rintro e w1 ⟨rfl, hb⟩) | (go_at_call 123; (with_reducible refine (CW.out.at _).mono ?_); rintro e w2 ⟨rfl, hb2⟩))
  go_ret
  exact ⟨rfl, hb.trans ((end_alloc' hb2).mono hb.size)⟩
end Go.Proofs.YtihcellcdkhadaaGreat.MF

/-
  New memories and forks: the program's. Nothing here is a statement of the seed.
-/
namespace Go.Proofs.YtihcellcdkhadaaGreat.MF
open Go.RowKit PM PR PF MM MR

theorem infoU32 : (Tryz.prog.info? 23).map (fun i => (i.zero, i.size, i.bytes)) = some (some (.int .u32 0), 1, 4) := by kernel_rfl
theorem wr_of_owns {w : World} {B n : Nat} {v : Value} {l : List Int} (h : w.ownsRow B 23 1 v n (wcs l)) (hv : v ≠ .slice none 0 0) : ∃ g c, v = .slice (some ⟨g, 0, none⟩) l.length c ∧ n = l.length ∧ B ≤ g ∧ l.length ≤ c ∧ c ≤ maxLen ∧ Wr w g l := by
  have hl := h.1
  rw [wcs_len] at hl
  have hn : l.length = n := by omega
  subst hn
  rcases h.2 with ⟨e, _⟩ | ⟨g, cap, cur, e, hg, hcell, hcap, hcm, hsz, hcur⟩
  · exact absurd e (by intro e'; apply hv; rw [e'] )
  · refine ⟨g, cap, e, rfl, hg, hcap, hcm, cur.toList.drop (wcs l).length, ?_⟩
    have e2 : (wcs l ++ cur.toList.drop (wcs l).length).toArray = cur := by
      have h3 : cur.toList.take (wcs l).length = wcs l := by
        rw [wcs_len]
        have h4 := hcur
        rw [Nat.mul_one] at h4
        exact h4
      conv => lhs; rw [← h3]
      have hle : (wcs l).length ≤ cur.toList.length := by
        have h5 : cur.toList.length = cap * 1 := hsz
        rw [wcs_len, h5]; omega
      rw [List.length_take, Nat.min_eq_left hle, List.take_append_drop]
    rw [e2]
    exact hcell
/-- a copy of words in memory of its own -/
def CopiedW (l : List Int) (w : World) (e : Ending) (w' : World) : Prop := ∃ g c, e = .returned (.slice (some ⟨g, 0, none⟩) l.length c) ∧ Wr w' g l ∧ w.heap.size ≤ g ∧ l.length ≤ c ∧ c ≤ maxLen ∧ Below w.heap.size w w'
theorem ownw_empty (w : World) : (w.alloc (.cells #[] 23)).ownsRow w.heap.size 23 1 (.slice (some ⟨w.heap.size, 0, none⟩) 0 0) 0 [] :=
  ⟨rfl, Or.inr ⟨w.heap.size, 0, #[], rfl, Nat.le_refl _, heap_alloc_new w _, Nat.le_refl _, by simp [maxLen], rfl, rfl⟩⟩
theorem wcs_one (l : List Int) : ∀ u ∈ wcs l, u.oneCell' = true := by
  intro u hu
  simp only [wcs, List.mem_map] at hu
  obtain ⟨x, _, rfl⟩ := hu
  rfl
theorem Wr.news {w : World} {g : Nat} {l : List Int} (h : Wr w g l) : ∀ j u, (wcs l)[j]? = some u → w.cell? ((⟨g, 0, none⟩ : Addr).add j) = some u := by
  intro j u hj
  obtain ⟨r, h⟩ := h
  rw [Addr.add_mid, Nat.zero_add, h.cell, List.getElem?_toArray, List.getElem?_append_left (List.getElem?_eq_some_iff.1 hj).1, hj]
theorem copiedW_of {w w0 w1 : World} {v' : Value} {l : List Int} {v : Value} (hb : Below w.heap.size w w0) (h1 : w1.ownsRow w.heap.size 23 1 v' (0 + l.length) ([] ++ wcs l)) (h2 : w0.grownBy w1 v.ownBlock) (hv : ∀ g, v.ownBlock = some g → w.heap.size ≤ g) (h3 : v' = .slice none 0 0 ↔ v = .slice none 0 0 ∧ l.length = 0) (hv0 : v ≠ .slice none 0 0) : ∃ g c, v' = .slice (some ⟨g, 0, none⟩) l.length c ∧ Wr w1 g l ∧ w.heap.size ≤ g ∧ l.length ≤ c ∧ c ≤ maxLen ∧ Below w.heap.size w w1 := by
  rw [Nat.zero_add, List.nil_append] at h1
  obtain ⟨g, c, e, _, hB, hc, hm, hr⟩ := wr_of_owns h1 (fun e => hv0 (h3.1 e).1)
  exact ⟨g, c, e, hr, hB, hc, hm, hb.grown h2 hb.size hv⟩
set_option maxHeartbeats 1000000 in
theorem cloneW_any {g c : Nat} {l : List Int} {w : World} (hr : Wr w g l) (h4096 : l.length ≤ 4096) : Calls Tryz.prog 69 #[.slice (some ⟨g, 0, none⟩) l.length c] w (CopiedW l w) := by
  obtain ⟨i0, hi, hz0, hz1, hz2⟩ := info_parts infoU32
  have hq : ∀ u, (binOp .eql 22 (.slice (some ⟨g, 0, none⟩) l.length c) (.slice none 0 0)).run Tryz.prog u = .ok (.bool false) u := fun u => @Lib.run_eql_slice_nil Tryz.prog u 22 23 (some ⟨g, 0, none⟩) l.length c 0 0 Tryz.underlying22
  have hn := Lib.hid (Wr.news (hr.alloc (.cells #[] 23)))
  have hl := Lib.hid (wcs_len l)
  have HO := Lib.hid (ownw_empty w)
  go_enter Tryz.func69, Tryz.ntmps69
  go_wp2_with (at_builtin; refine wpList_append_own _ rfl _ _ 22 rfl w.heap.size 23 i0 _ 1 4 Tryz.underlying22 hi hz0 hz1 hz2 rfl (by decide) (.slice (some ⟨w.heap.size, 0, none⟩) 0 0) 0 [] rfl HO.out ⟨g, 0, none⟩ l.length c (wcs l) rfl (by rw [hl.out]; omega) hn.out (wcs_one l) (by unfold maxLen; omega) (by omega) (by simp) ?_; intro v' w1 hown hgrow hnil; obtain ⟨g', c', rfl, hrow, hg', hc1, hc2, hb⟩ := copiedW_of (below_new w _) hown hgrow (by intro g h; simp [Value.ownBlock] at h; omega) hnil (by simp); have HR := Lib.hid hrow; clear hown hgrow hnil hrow)
  go_ret
  exact ⟨g', c', rfl, HR.out, hg', hc1, hc2, hb⟩
/-- a memory told, all of its blocks new -/
def NewPm (M : Mm) (w : World) (e : Ending) (w' : World) : Prop := ∃ p t g gw, e = .returned (.pointer (some ⟨p, 0, none⟩)) ∧ Pm w' p t g gw M ∧ w.heap.size ≤ p ∧ w.heap.size ≤ t ∧ w.heap.size ≤ g ∧ w.heap.size ≤ gw ∧ Below w.heap.size w w'
abbrev Ten (p : Nat) (M : Mm) (t gw d : Nat) (u : World) : Prop := u.cell? ⟨p, 0, none⟩ = some (.int .u32 (M.gt 0)) ∧ u.cell? ⟨p, 1, none⟩ = some (.int .u32 (M.gt 1)) ∧ u.cell? ⟨p, 2, none⟩ = some (.int .u32 (M.gt 2)) ∧ u.cell? ⟨p, 3, none⟩ = some (.int .u32 (M.gt 3)) ∧ u.cell? ⟨p, 4, none⟩ = some (.int .u32 (M.gt 4)) ∧
  u.cell? ⟨p, 5, none⟩ = some (.int .u32 (M.gt 5)) ∧ u.cell? ⟨p, 6, none⟩ = some (.int .u32 (M.gt 6)) ∧ u.cell? ⟨p, 7, none⟩ = some (.int .u32 (M.gt 7)) ∧ u.cell? ⟨p, 8, none⟩ = some (.pointer (some ⟨t, 0, none⟩)) ∧ u.cell? ⟨p, 9, none⟩ = some (.slice (some ⟨gw, 0, none⟩) M.ws.length d)
theorem ten_go {p t gw d : Nat} {M : Mm} {w u : World} (h : Ten p M t gw d w.drew) (hp : p < w.heap.size) (hb : Below w.heap.size w u) : Ten p M t gw d u := by
  have c := fun i => hb.cell (p := ⟨p, i, none⟩) hp
  obtain ⟨h0, h1, h2, h3, h4, h5, h6, h7, h8, h9⟩ := h
  exact ⟨(c _).trans h0, (c _).trans h1, (c _).trans h2, (c _).trans h3, (c _).trans h4, (c _).trans h5, (c _).trans h6, (c _).trans h7, (c _).trans h8, (c _).trans h9⟩
theorem ten_box {p t gw d : Nat} {M : Mm} {w u : World} (h : Ten p M t gw d w.drew) (hp : p < w.heap.size) (hb : Below w.heap.size w u) (o : Obj) : Ten p M t gw d (u.alloc o) ∧ Below w.heap.size w (u.alloc o) := ⟨ten_go h hp (hb.alloc hb.size o), hb.alloc hb.size o⟩
/-! new ones -/
theorem made_words (n : Nat) : (madeCells (Value.int .u32 0).cells (n * 1)).toList = wcs (List.replicate n 0) := by
  apply List.ext_getElem?
  intro i
  by_cases hi : i < n
  · have : i < n * 1 := by omega
    simp [madeCells, this, hi, Value.cells, wcs]
    rw [Nat.mod_one]
    rfl
  · rw [List.getElem?_eq_none (by rw [Array.length_toList, size_madeCells]; omega), List.getElem?_eq_none (by rw [wcs_len, List.length_replicate]; omega)]
theorem made_wr {w : World} {B m g : Nat} (h : w.ownsRow B 23 1 (.slice (some ⟨g, 0, none⟩) m m) m (wcs (List.replicate m 0))) : Wr w g (List.replicate m 0) ∧ B ≤ g := by
  obtain ⟨g', c, e, _, hB, _, _, hr⟩ := wr_of_owns h (by simp)
  simp only [Value.slice.injEq, Option.some.injEq, Addr.mk.injEq] at e
  obtain ⟨⟨rfl, _⟩, _⟩ := e
  exact ⟨hr, hB⟩
theorem newP_end {w w1 w2 : World} {n p g : Nat} (h256 : n ≤ 256) (hT : Tb w1 p g (zeros n)) (hp : w.heap.size ≤ p) (hg : w.heap.size ≤ g) (hb : Below w.heap.size w w1)
    (hown : w2.ownsRow w1.heap.size 23 1 (.slice (some ⟨w1.heap.size, 0, none⟩) (n * 16) (n * 16)) (n * 16) (wcs (List.replicate (n * 16) 0))) (hgrow : w1.grownBy w2 none) :
    NewPm (newM n) w (.returned (.pointer (some ⟨w2.heap.size, 0, none⟩))) (w2.alloc (.cells (pCs (fun _ => 0) p w1.heap.size (n * 16) (n * 16)) 100)) := by
  obtain ⟨hr, _⟩ := made_wr hown
  have hb2 : Below w1.heap.size w1 w2 := (Below.refl _ _).grown hgrow (Nat.le_refl _) (fun k hk => by cases hk)
  have hw := below_of hb hb2
  refine ⟨w2.heap.size, p, g, w1.heap.size, rfl, ⟨newM_ok h256, (hT.belowS hb2).belowS (below_new _ _), hr.alloc _, n * 16, by simp [newM], by unfold maxLen; omega, ?_⟩, hw.size, hp, hg, hb.size, hw.alloc hw.size _⟩
  have : (newM n).ws.length = n * 16 := by simp [newM]
  rw [this]
  exact Whole.new _ _ _
set_option maxHeartbeats 1000000 in
theorem newP_any (k : Int) (w : World) : Calls Tryz.prog 14 #[.int .i64 k] w (NewPm (newM (min (max k 0) 256).toNat) w) := by
  obtain ⟨i0, hi, hz0, hz1, hz2⟩ := info_parts infoU32
  have CN := Lib.hid (new_any k w)
  have hN : (min (max k 0) 256).toNat ≤ 256 := by omega
  generalize (min (max k 0) 256).toNat = n at *
  have CL := Lib.hid (fun (p g : Nat) (u : World) (h : Tb u p g (zeros n)) => len_tb h)
  rw [zeros_len] at CL
  have hn1 : (n : Int) ≤ 256 := by omega
  have hn0 : (0 : Int) ≤ n := by omega
  go_enter Tryz.func14, Tryz.ntmps14
  go_wp2_with (first | (go_at_call 50; (with_reducible refine CN.out.mono ?_); rintro e w1 ⟨p, g, rfl, hT, hp, hg, hb⟩; have HT := Lib.hid hT; clear hT) | (go_at_call 51; (with_reducible refine (CL.out _ _ _ HT.out).mono ?_); rintro e w2 ⟨rfl, rfl⟩) | (at_make; refine wpList_make_full _ rfl _ _ 22 rfl w1.heap.size 23 i0 _ 1 Tryz.underlying22 hi hz0 hz1 _ _ _ _ (n * 16) rfl rfl (by omega) (by omega) (by rw [hz2]; omega) (by unfold maxLen; omega) (Nat.le_refl _) ?_; intro w2 hown1 hgrow1))
  rw [made_words] at hown1
  go_ret
  exact newP_end hN HT.out hp hg hb hown1 hgrow1
end Go.Proofs.YtihcellcdkhadaaGreat.MF
