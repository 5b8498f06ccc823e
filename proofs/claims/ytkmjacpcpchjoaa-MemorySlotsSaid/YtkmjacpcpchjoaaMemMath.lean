/-
  Memories as numbers: gates, pages, words, and what becomes of them. Plain mathematics; nothing here is a statement of the seed.
-/
import Derived.Test.YtkmjacpcpchjoaaPageMath
import Derived.Test.YtkmjacpcpchjoaaIsaMath
set_option linter.unusedSimpArgs false
set_option linter.unusedVariables false
namespace Go.Proofs.Ytkmjacpcpchjoaa.MM
open PM

/-- a memory: its gates, its pages, the pages' words -/
structure Mm where
  gt : Nat → Int
  pg : List Pg
  ws : List Int
/-- what every memory is like -/
structure MOk (M : Mm) : Prop where
  p256 : M.pg.length ≤ 256
  w16 : M.ws.length = M.pg.length * 16
  fine : FineL M.pg
def pageOf (a : Int) : Int := if a < 80 ∨ 4176 ≤ a then -1 else (a - 80) / 16
/-- the page i, or none -/
def gPm (l : List Pg) (i : Int) : Pg := if i < 0 then zero else l.getD i.toNat zero
def thereB (M : Mm) (a : Int) : Bool := decide (80 ≤ a ∧ a < 80 + (M.ws.length : Int))
def slotW (k : Int) : Int := IM.enc 21 0 0 0 k
def word (M : Mm) (a : Int) : Int := M.ws.getD (a - 80).toNat 0
def peek (M : Mm) (a : Int) : Int := if a < 64 then slotW a else if a < 72 then M.gt (a - 64).toNat else if thereB M a then word M a else 0
def pageAt (M : Mm) (a : Int) : Pg := gPm M.pg (pageOf a)
def putE (M : Mm) (a : Int) : Int := if thereB M a then if (pageAt M a).st = 1 then 0 else 9 else 11
def setW (M : Mm) (a w : Int) : Mm := ⟨M.gt, M.pg, M.ws.set (a - 80).toNat w⟩
def putM (M : Mm) (a w : Int) : Mm := if putE M a = 0 then setW M a w else M
def gate (M : Mm) (g : Int) : Int := if g < 0 ∨ 8 ≤ g then 0 else M.gt g.toNat
def setE (g : Int) : Int := if g < 0 ∨ 8 ≤ g then 2 else 0
def setG (G : Nat → Int) (g : Nat) (b : Int) : Nat → Int := fun j => if j = g then b else G j
def setM (M : Mm) (g b : Int) : Mm := if setE g = 0 then ⟨setG M.gt g.toNat b, M.pg, M.ws⟩ else M
def fetchB (M : Mm) (a e : Int) : Bool := decide (a < 64) || (thereB M a && runsB (pageAt M a) e)
def fetchW (M : Mm) (a e : Int) : Int := if fetchB M a e then peek M a else 0
def fetchO (M : Mm) (a e : Int) : Int := if a < 64 then 0 else if fetchB M a e then (pageAt M a).ow else 0
def loadB (M : Mm) (a e : Int) : Bool := decide (a < 80) || (thereB M a && seenB (pageAt M a) e)
def loadW (M : Mm) (a e : Int) : Int := if loadB M a e then peek M a else 0
def stoB (M : Mm) (a e o : Int) : Bool := thereB M a && writesB (pageAt M a) e o
def stoM (M : Mm) (a w e o : Int) : Mm := if stoB M a e o then setW M a w else M
def withP (M : Mm) (l : List Pg) : Mm := ⟨M.gt, l, M.ws⟩
/-- one call -/
structure Ac where
  k : Int
  a : Int
  w : Int
  p : Int
  n : Int
  o : Int
  e : Int
def actM (M : Mm) (x : Ac) : Mm :=
  if x.k % 8 = 0 ∨ x.k % 8 = 1 then putM M x.a x.w else if x.k % 8 = 2 then setM M (x.o - 1) x.w else if x.k % 8 = 3 then stoM M x.a x.w x.e x.o
  else if x.k % 8 = 4 then withP M (stageL M.pg x.p x.n x.o) else if x.k % 8 = 5 then withP M (pubL M.pg x.o x.n) else if x.k % 8 = 6 then withP M (retL M.pg x.o x.e) else withP M (relL M.pg x.o)
theorem MOk.setW {M : Mm} (h : MOk M) (a w : Int) : MOk (setW M a w) := ⟨h.p256, by simp [MM.setW, h.w16], h.fine⟩
theorem MOk.put {M : Mm} (h : MOk M) (a w : Int) : MOk (putM M a w) := by unfold putM; split; exact h.setW _ _; exact h
theorem MOk.set {M : Mm} (h : MOk M) (g b : Int) : MOk (setM M g b) := by
  unfold setM
  split
  · exact ⟨h.p256, h.w16, h.fine⟩
  · exact h
theorem MOk.sto {M : Mm} (h : MOk M) (a w e o : Int) : MOk (stoM M a w e o) := by unfold stoM; split; exact h.setW _ _; exact h
theorem MOk.withP {M : Mm} (h : MOk M) {l : List Pg} (hl : l.length = M.pg.length) (hf : FineL l) : MOk (withP M l) := ⟨by show l.length ≤ 256; rw [hl]; exact h.p256, by show M.ws.length = l.length * 16; rw [hl]; exact h.w16, hf⟩
theorem MOk.act {M : Mm} (h : MOk M) (x : Ac) : MOk (actM M x) := by
  unfold actM
  split
  · exact h.put _ _
  · split
    · exact h.set _ _
    · split
      · exact h.sto _ _ _ _
      · split
        · exact h.withP (stageL_len ..) (h.fine.stage _ _ _)
        · split
          · exact h.withP (pubL_len ..) (h.fine.pub _ _)
          · split
            · exact h.withP (retL_len ..) (h.fine.ret _ _)
            · exact h.withP (relL_len ..) (h.fine.rel _)
/-- a new memory of n pages -/
def newM (n : Nat) : Mm := ⟨fun _ => 0, zeros n, List.replicate (n * 16) 0⟩
theorem newM_ok {n : Nat} (h : n ≤ 256) : MOk (newM n) := ⟨by simpa [newM, zeros] using h, by simp [newM, zeros], fine_zeros n⟩
theorem there_page {M : Mm} (h : MOk M) {a : Int} (ha : thereB M a = true) : 0 ≤ pageOf a ∧ pageOf a < M.pg.length ∧ pageOf a = (a - 80) / 16 := by
  unfold thereB at ha
  rw [decide_eq_true_eq] at ha
  have := h.w16
  have := h.p256
  unfold pageOf
  rw [if_neg (by omega)]
  omega
theorem not_there {M : Mm} (h : MOk M) {a : Int} (ha : thereB M a = false) (h0 : 0 ≤ a) : pageOf a < 0 ∨ (M.pg.length : Int) ≤ pageOf a := by
  unfold thereB at ha
  rw [decide_eq_false_iff_not] at ha
  have := h.w16
  unfold pageOf
  split <;> omega
theorem gPm_none {l : List Pg} {i : Int} (h : i < 0 ∨ (l.length : Int) ≤ i) : gPm l i = zero := by
  unfold gPm
  split
  · rfl
  · rw [List.getD_eq_getElem?_getD, List.getElem?_eq_none (by omega)]; rfl
theorem not_there_page {M : Mm} (h : MOk M) {a : Int} (ha : thereB M a = false) (h0 : 0 ≤ a) : pageAt M a = zero := gPm_none (not_there h ha h0)

def bk0 : List Pg := [zero, stg 5, stg 5, zero]
def bk1 : List Pg := [zero, ⟨2, true, false, 5, 0⟩, ⟨2, false, true, 5, 0⟩, zero]
def bk2 (r : Int) : List Pg := [zero, ⟨3, true, false, 5, r⟩, ⟨3, false, true, 5, r⟩, zero]
theorem bk_s : stageE (zeros 4) 1 2 5 = 0 ∧ stageL (zeros 4) 1 2 5 = bk0 := ⟨rfl, rfl⟩
theorem bk_p : pubE bk0 5 1 = 0 ∧ pubL bk0 5 1 = bk1 := ⟨rfl, rfl⟩
theorem bk_r (r : Int) : retE bk1 5 = 0 ∧ retL bk1 5 r = bk2 r := ⟨rfl, rfl⟩
theorem page_1 {a : Int} (h : 96 ≤ a ∧ a < 112) : pageOf a = 1 := by unfold pageOf; rw [if_neg (by omega)]; omega
theorem page_2 {a : Int} (h : 112 ≤ a ∧ a < 128) : pageOf a = 2 := by unfold pageOf; rw [if_neg (by omega)]; omega
section
variable {G : Nat → Int} {ws : List Int} {a : Int}
theorem bk_there (hl : ws.length = 64) (h : 112 ≤ a ∧ a < 128) (l : List Pg) : thereB ⟨G, l, ws⟩ a = true := by unfold thereB; rw [decide_eq_true_eq]; show 80 ≤ a ∧ a < 80 + (ws.length : Int); omega
theorem bk_at1 (hl : ws.length = 64) (h : 112 ≤ a ∧ a < 128) : pageAt ⟨G, bk1, ws⟩ a = ⟨2, false, true, 5, 0⟩ := by unfold pageAt; rw [page_2 h]; rfl
theorem bk_at2 (hl : ws.length = 64) (h : 112 ≤ a ∧ a < 128) (r : Int) : pageAt ⟨G, bk2 r, ws⟩ a = ⟨3, false, true, 5, r⟩ := by unfold pageAt; rw [page_2 h]; rfl
theorem bk_st1 (hl : ws.length = 64) (h : 112 ≤ a ∧ a < 128) (e w : Int) : stoB ⟨G, bk1, ws⟩ a e 5 = true ∧ stoM ⟨G, bk1, ws⟩ a w e 5 = ⟨G, bk1, ws.set (a - 80).toNat w⟩ := by
  have : stoB ⟨G, bk1, ws⟩ a e 5 = true := by unfold stoB; rw [bk_there hl h, bk_at1 hl h]; rfl
  exact ⟨this, by unfold stoM; rw [this, if_pos rfl]; rfl⟩
theorem bk_st4 (hl : ws.length = 64) (h : 112 ≤ a ∧ a < 128) (e w : Int) : stoB ⟨G, bk1, ws⟩ a e 4 = false ∧ stoM ⟨G, bk1, ws⟩ a w e 4 = ⟨G, bk1, ws⟩ := by
  have : stoB ⟨G, bk1, ws⟩ a e 4 = false := by unfold stoB; rw [bk_at1 hl h]; simp [writesB]
  exact ⟨this, by unfold stoM; rw [this]; rfl⟩
theorem bk_st16 (hl : ws.length = 64) (h : 112 ≤ a ∧ a < 128) (e w : Int) : stoB ⟨G, bk1, ws⟩ (a - 16) e 5 = false ∧ stoM ⟨G, bk1, ws⟩ (a - 16) w e 5 = ⟨G, bk1, ws⟩ := by
  have hp : pageAt ⟨G, bk1, ws⟩ (a - 16) = ⟨2, true, false, 5, 0⟩ := by unfold pageAt; rw [page_1 (by omega)]; rfl
  have : stoB ⟨G, bk1, ws⟩ (a - 16) e 5 = false := by unfold stoB; rw [hp]; simp [writesB]
  exact ⟨this, by unfold stoM; rw [this]; rfl⟩
theorem bk_word (hl : ws.length = 64) (h : 112 ≤ a ∧ a < 128) (l : List Pg) (w : Int) : peek ⟨G, l, ws.set (a - 80).toNat w⟩ a = w := by
  unfold peek
  rw [if_neg (by omega), if_neg (by omega), if_pos (bk_there (by simpa using hl) h l)]
  unfold word
  simp only [List.getD_eq_getElem?_getD]
  rw [List.getElem?_set_self (by omega)]
  rfl
theorem bk_ld1 (hl : ws.length = 64) (h : 112 ≤ a ∧ a < 128) (e w : Int) : loadB ⟨G, bk1, ws.set (a - 80).toNat w⟩ a e = true ∧ loadW ⟨G, bk1, ws.set (a - 80).toNat w⟩ a e = w := by
  have hl' : (ws.set (a - 80).toNat w).length = 64 := by simpa using hl
  have : loadB ⟨G, bk1, ws.set (a - 80).toNat w⟩ a e = true := by unfold loadB; rw [bk_there hl' h, bk_at1 hl' h]; simp [seenB]
  exact ⟨this, by unfold loadW; rw [this, if_pos rfl, bk_word hl h]⟩
theorem bk_fe1 (hl : ws.length = 64) (h : 112 ≤ a ∧ a < 128) (e w : Int) : fetchB ⟨G, bk1, ws.set (a - 80).toNat w⟩ a e = false ∧ fetchW ⟨G, bk1, ws.set (a - 80).toNat w⟩ a e = 0 ∧ fetchO ⟨G, bk1, ws.set (a - 80).toNat w⟩ a e = 0 := by
  have hl' : (ws.set (a - 80).toNat w).length = 64 := by simpa using hl
  have h64 : ¬ a < 64 := by omega
  have : fetchB ⟨G, bk1, ws.set (a - 80).toNat w⟩ a e = false := by unfold fetchB; rw [bk_at1 hl' h]; simp [runsB, h64]
  exact ⟨this, by unfold fetchW; rw [this]; rfl, by unfold fetchO; rw [if_neg h64, this]; rfl⟩
theorem bk_ld2 (hl : ws.length = 64) (h : 112 ≤ a ∧ a < 128) (e r w : Int) : loadB ⟨G, bk2 r, ws.set (a - 80).toNat w⟩ a e = decide (e < r) := by
  have hl' : (ws.set (a - 80).toNat w).length = 64 := by simpa using hl
  have h80 : ¬ a < 80 := by omega
  unfold loadB; rw [bk_there hl' h, bk_at2 hl' h]; simp [seenB, h80]
theorem bk_st2 (hl : ws.length = 64) (h : 112 ≤ a ∧ a < 128) (e r w : Int) : stoB ⟨G, bk2 r, ws.set (a - 80).toNat w⟩ a e 5 = decide (e < r) ∧ stoM ⟨G, bk2 r, ws.set (a - 80).toNat w⟩ a w e 5 = ⟨G, bk2 r, ws.set (a - 80).toNat w⟩ := by
  have hl' : (ws.set (a - 80).toNat w).length = 64 := by simpa using hl
  refine ⟨?_, ?_⟩
  · unfold stoB; rw [bk_there hl' h, bk_at2 hl' h]; simp [writesB, seenB]
  · unfold stoM
    split
    · unfold setW; simp
    · rfl
end

theorem sto_page {M : Mm} (ok : MOk M) {a e o : Int} (h : stoB M a e o = true) : (pageAt M a).wr = true ∧ (pageAt M a).ex = false ∧ (pageAt M a).ow = o ∧ thereB M a = true := by
  unfold stoB at h
  rw [Bool.and_eq_true] at h
  obtain ⟨h1, h2⟩ := h
  obtain ⟨g1, g2, g3⟩ := there_page ok h1
  have hf : Fine (pageAt M a) := by
    unfold pageAt gPm
    rw [if_neg (by omega)]
    exact ok.fine _ (by omega)
  generalize pageAt M a = q at *
  obtain ⟨st, ex, wr, ow, ep⟩ := q
  simp only [writesB, seenB, Bool.and_eq_true, Bool.or_eq_true, decide_eq_true_eq] at h2
  obtain ⟨⟨⟨h3, h4⟩, h5⟩, h6⟩ := h2
  subst h4
  refine ⟨rfl, ?_, h5, h1⟩
  rcases hf with ⟨h, _⟩ | ⟨h, _⟩ | ⟨_, _, h⟩
  · simp only at h; omega
  · simp only at h; omega
  · cases ex
    · rfl
    · simp at h
theorem sto_at {M : Mm} {a e o : Int} (x : Int) (h : stoB M a e o = true) (ht : thereB M a = true) : peek (stoM M a x e o) a = x := by
  have h1 : thereB (setW M a x) a = true := by
    unfold thereB setW at *
    simpa using ht
  unfold stoM
  rw [if_pos h]
  unfold thereB at ht
  rw [decide_eq_true_eq] at ht
  unfold peek
  rw [if_neg (by omega), if_neg (by omega), if_pos h1]
  unfold word setW
  simp only [List.getD_eq_getElem?_getD]
  rw [List.getElem?_set_self (by omega)]
  rfl
theorem sto_other {M : Mm} {a e o k : Int} (x : Int) (hne : k ≠ a) (hk : 0 ≤ k) (ha : 0 ≤ a) : peek (stoM M a x e o) k = peek M k := by
  unfold stoM
  split
  · rename_i h
    unfold stoB at h
    rw [Bool.and_eq_true] at h
    have ht := h.1
    unfold thereB at ht
    rw [decide_eq_true_eq] at ht
    have e1 : thereB (setW M a x) k = thereB M k := by unfold thereB setW; simp
    unfold peek
    rw [e1]
    by_cases h1 : k < 64
    · rw [if_pos h1, if_pos h1]
    · rw [if_neg h1, if_neg h1]
      by_cases h2 : k < 72
      · rw [if_pos h2, if_pos h2]; rfl
      · rw [if_neg h2, if_neg h2]
        cases h3 : thereB M k
        · rfl
        · rw [if_pos rfl, if_pos rfl]
          unfold thereB at h3
          rw [decide_eq_true_eq] at h3
          unfold word setW
          simp only [List.getD_eq_getElem?_getD]
          rw [List.getElem?_set_ne (by omega)]
  · rfl
theorem sto_no {M : Mm} {a e o : Int} (x : Int) (h : stoB M a e o = false) : stoM M a x e o = M := by unfold stoM; rw [h]; rfl
end Go.Proofs.Ytkmjacpcpchjoaa.MM
