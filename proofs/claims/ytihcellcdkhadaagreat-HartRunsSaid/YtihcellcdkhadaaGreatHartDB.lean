/-
  The two memories of a trial, laid and turned by the law's own hand. Nothing here is a statement of the seed.
-/
import Derived.Test.YtihcellcdkhadaaGreatHartDuo
import Derived.Deep.CutRange
import Derived.Deep.RegionWith
import Derived.BigRegion
set_option linter.unusedSimpArgs false
set_option linter.unusedVariables false
namespace Go.Proofs.YtihcellcdkhadaaGreat.HF
open Go.RowKit PM PR PF MM MR MF HM HR
set_option maxHeartbeats 16000000
set_option maxRecDepth 10000
/-- what made tells -/
def Made (M : Mm) (w : World) (e : Ending) (w' : World) : Prop := ∃ p t g gwp gr c gw d, e = .returned (.tuple #[.pointer (some ⟨p, 0, none⟩), rV M.gt gr M.pg.length c gw M.ws.length d]) ∧ Pm w' p t g gwp M ∧ Rm w' gr c gw d M ∧ gr ≠ g ∧ gw ≠ gwp ∧
  w.heap.size ≤ p ∧ w.heap.size ≤ t ∧ w.heap.size ≤ g ∧ w.heap.size ≤ gwp ∧ w.heap.size ≤ gr ∧ w.heap.size ≤ gw ∧ Below w.heap.size w w'
abbrev ldCs (ca : Option Addr) (cn cc : Nat) (da : Option Addr) (dn dc : Nat) (gate : Int) (ret : Bool) : Array Value := #[.slice ca cn cc, .slice da dn dc, .int .u32 gate, .bool ret]
abbrev mdW (w : World) (cs : Array Value) : World := (w.alloc (.cells cs 25)).alloc (.cells zCs 36)
theorem mdW_facts (w : World) (cs : Array Value) : Below w.heap.size w (mdW w cs) ∧ (mdW w cs).heap.size = w.heap.size + 1 + 1 ∧ Whole (mdW w cs) w.heap.size 25 cs ∧ Whole (mdW w cs) (w.heap.size + 1) 36 zCs := by
  refine ⟨(below_new w _).alloc (by simp) _, by simp, (Whole.new w _ _).alloc _, ?_⟩
  have := Whole.new (w.alloc (.cells cs 25)) 36 zCs
  simpa using this
theorem read_at {B : Nat} {w u : World} {a : Option Addr} {n c : Nat} {l : List Int} (h : Rs B w a n c l) (hb : Below B w u) {k : Nat} (hk : k < n) : ∃ g off, a = some ⟨g, off, none⟩ ∧ n ≤ c ∧ u.cell? ⟨g, off + k, none⟩ = some (.int .u32 (l.getD k 0)) ∧ g < B := by
  have hl := h.len
  have hne : wcs l ≠ [] := by
    intro e
    have h0 : (wcs l).length = 0 := by rw [e]; rfl
    rw [wcs_len] at h0
    omega
  obtain ⟨g, off, cap, hv, hg, h1, h2, hc⟩ := (h.below hb).cells hne
  simp only [Value.slice.injEq] at hv
  have := hc k (by rw [wcs_len]; omega)
  rw [wcs_at (by omega)] at this
  exact ⟨g, off, hv.1, hl.2.1, this, hg⟩
theorem Duo.box8 {B p t g gwp R gr c gw d : Nat} {MP MQ : Mm} {u : World} (h : Duo B p t g gwp R MP MQ gr c gw d u) (hn : MQ.pg.length = 8) (hm : MQ.ws.length = 128) : Whole u R 36 (rCs MQ.gt gr 8 c gw 128 d) := by
  have := h.box
  rw [hn, hm] at this
  exact this
/-- the reference's memory of eight pages and an answer -/
def RT8 (M' : Mm) (x : Value) (gr c gw : Nat) (w : World) (e : Ending) (w' : World) : Prop := ∃ gw' d', e = .returned (.tuple #[rV M'.gt gr 8 c gw' 128 d', x]) ∧ Wr w' gw' M'.ws ∧ (gw' = gw ∨ w.heap.size ≤ gw') ∧ 128 ≤ d' ∧ d' ≤ maxLen ∧ Below w.heap.size w w'
theorem rt8 {M M' : Mm} {x : Value} {gr c gw : Nat} {w : World} (hn : M.pg.length = 8) (hm : M.ws.length = 128) {e : Ending} {w' : World} (h : RTurn M M' x gr c gw w e w') : RT8 M' x gr c gw w e w' := by
  unfold RTurn at h
  rw [hn, hm] at h
  exact h
/-- the contracts of both at a memory of eight pages -/
theorem duo_stage {B p t g gwp R gr c gw d : Nat} {MP : Mm} {G : Nat → Int} {ws : List Int} {u : World} (h : Duo B p t g gwp R MP ⟨G, zeros 8, ws⟩ gr c gw d u) : Calls Tryz.prog 18 #[.agg #[.slice (some ⟨gr, 0, none⟩) 8 c], .int .i64 0, .int .i64 6, .int .u16 1] u (Rets gr 0 bL1 u) := by
  have := refStage_any h.rm.row (by show (zeros 8).length ≤ 256; decide) h.rm.c1 h.rm.c2 (fine_zeros 8) 0 6 1
  exact this
theorem duo_publish {B p t g gwp R gr c gw d : Nat} {MP : Mm} {G : Nat → Int} {ws : List Int} {u : World} (h : Duo B p t g gwp R MP ⟨G, bL1, ws⟩ gr c gw d u) : Calls Tryz.prog 22 #[.agg #[.slice (some ⟨gr, 0, none⟩) 8 c], .int .u16 1, .int .i64 4] u (Rets gr 0 bL2 u) := by
  have := refPublish_any h.rm.row (by show bL1.length ≤ 256; decide) h.rm.c1 h.rm.c2 bL1_fine 1 4
  exact this
theorem duo_retire {B p t g gwp R gr c gw d : Nat} {MP : Mm} {G : Nat → Int} {ws : List Int} {u : World} (h : Duo B p t g gwp R MP ⟨G, bL2, ws⟩ gr c gw d u) : Calls Tryz.prog 26 #[.agg #[.slice (some ⟨gr, 0, none⟩) 8 c], .int .u16 1, .int .u64 2] u (Rets gr 0 bL3 u) := by
  have := refRetire_any h.rm.row (by show bL2.length ≤ 256; decide) h.rm.c1 h.rm.c2 bL2_fine 1 2
  exact this
theorem duo_put {B p t g gwp R gr c gw d : Nat} {MP : Mm} {G : Nat → Int} {ws : List Int} {u : World} (h : Duo B p t g gwp R MP ⟨G, bL1, ws⟩ gr c gw d u) (hl : ws.length = 128) {k : Nat} (hk : k < 96) {A : Int} (hA : A = 80 + (k : Int)) (x : Int) : Calls Tryz.prog 20 #[rV G gr 8 c gw 128 d, .int .u32 A, .int .u32 x] u (RT8 ⟨G, bL1, ws.set k x⟩ (.int .i64 0) gr c gw u) := by
  have := refPut_any h.rm h.ok A x (by omega)
  rw [hA, (put_land hl G hk x).1, (put_land hl G hk x).2] at this
  rw [hA]
  have e : (Mm.mk G bL1 ws).ws.length = 128 := hl
  have f : (Mm.mk G bL1 ws).pg.length = 8 := bL1_len
  rw [e, f] at this
  exact this.mono fun _ _ h => rt8 rfl hl h
theorem duo_putP {B p t g gwp R gr c gw d : Nat} {MQ : Mm} {G : Nat → Int} {ws : List Int} {u : World} (h : Duo B p t g gwp R ⟨G, bL1, ws⟩ MQ gr c gw d u) (hl : ws.length = 128) {k : Nat} (hk : k < 96) {A : Int} (hA : A = 80 + (k : Int)) (x : Int) : Calls Tryz.prog 19 #[.pointer (some ⟨p, 0, none⟩), .int .u32 A, .int .u32 x] u (MTurns p t g gwp (.int .i64 0) ⟨G, bL1, ws.set k x⟩ u) := by
  have := MF.put_any h.pm A x (by omega)
  rw [hA, (put_land hl G hk x).1, (put_land hl G hk x).2] at this
  rw [hA]
  exact this
theorem duo_gate {B p t g gwp R gr c gw d : Nat} {MP : Mm} {G : Nat → Int} {l : List Pg} {ws : List Int} {u : World} (h : Duo B p t g gwp R MP ⟨G, l, ws⟩ gr c gw d u) (hn : l.length = 8) (hl : ws.length = 128) (k b : Int) (hk : k = 0 ∨ k = 1) : Calls Tryz.prog 24 #[rV G gr 8 c gw 128 d, .int .i64 k, .int .u32 b] u (RT8 ⟨setG G k.toNat b, l, ws⟩ (.int .i64 0) gr c gw u) := by
  have := refSetGate_any h.rm k b
  have e1 : (Mm.mk G l ws).ws.length = 128 := hl
  have e2 : (Mm.mk G l ws).pg.length = 8 := hn
  rw [e1, e2] at this
  rcases hk with rfl | rfl
  · exact this.mono fun _ _ h => rt8 hn hl h
  · exact this.mono fun _ _ h => rt8 hn hl h
theorem duo_gateP {B p t g gwp R gr c gw d : Nat} {MQ : Mm} {G : Nat → Int} {l : List Pg} {ws : List Int} {u : World} (h : Duo B p t g gwp R ⟨G, l, ws⟩ MQ gr c gw d u) (k b : Int) (hk : k = 0 ∨ k = 1) : Calls Tryz.prog 23 #[.pointer (some ⟨p, 0, none⟩), .int .i64 k, .int .u32 b] u (MTurns p t g gwp (.int .i64 0) ⟨setG G k.toNat b, l, ws⟩ u) := by
  have := setGate_any h.pm k b
  rcases hk with rfl | rfl
  · exact this
  · exact this
/-- both, and what lies below them -/
structure DB (w : World) (cs : Array Value) (p t g gwp R : Nat) (MP MQ : Mm) (gr c gw d : Nat) (u : World) : Prop where
  duo : Duo (w.heap.size + 1 + 1) p t g gwp R MP MQ gr c gw d u
  low : Below (w.heap.size + 1 + 1) (mdW w cs) u
section
variable {w : World} {cs : Array Value} {p t g gwp R gr c gw d : Nat} {MP MQ : Mm} {u u' : World}
theorem DB.size (h : DB w cs p t g gwp R MP MQ gr c gw d u) : w.heap.size + 1 + 1 ≤ u.heap.size := by have := h.duo.lt.1; have := h.duo.b1; omega
theorem DB.prog {MP' : Mm} (h : DB w cs p t g gwp R MP MQ gr c gw d u) (hf : Fr (MS p g gwp) u u') (hP : Pm u' p t g gwp MP') : DB w cs p t g gwp R MP' MQ gr c gw d u' := by
  have := h.duo.b1
  have := h.duo.b3
  have := h.duo.b4
  exact ⟨h.duo.prog hf hP, PR.Below.fr h.low hf h.size (by rintro i (rfl | rfl | rfl) <;> omega)⟩
theorem DB.pages {l : List Pg} (h : DB w cs p t g gwp R MP MQ gr c gw d u) (hf : Fr (fun i => i = g) u u') (hr : Row u' g l) (hl : l.length = MP.pg.length) (hF : FineL l) : DB w cs p t g gwp R (withP MP l) MQ gr c gw d u' := by
  have := h.duo.b3
  exact ⟨h.duo.pages hf hr hl hF, PR.Below.fr h.low hf h.size (by rintro i rfl; omega)⟩
theorem DB.word {MQ' : Mm} {u2 : World} {gw' d' : Nat} (h : DB w cs p t g gwp R MP MQ gr c gw d u) (hn : MQ.pg.length = 8) (hm : MQ.ws.length = 128) (hpg : MQ'.pg = MQ.pg) (hws : MQ'.ws.length = MQ.ws.length) (ok : MOk MQ') (hw : Wr u2 gw' MQ'.ws) (h1 : gw' = gw ∨ u.heap.size ≤ gw') (h2 : 128 ≤ d') (h3 : d' ≤ maxLen) (hb : Below u.heap.size u u2) :
    DB w cs p t g gwp R MP MQ' gr c gw' d' (putB u2 R MQ'.gt gr 8 c gw' 128 d') := by
  obtain ⟨x1, x2⟩ := h.duo.word hpg hws ok h.size hw h1 (by omega) h3 hb
  rw [hn, hm] at x1 x2
  have h5 := h.duo.b5
  have h6 := h.size
  exact ⟨x1, PR.Below.fr (h.low.trans (hb.mono h.size)) x2 (by have := hb.size; omega) (by rintro i rfl; omega)⟩
theorem DB.pageR {l : List Pg} {u2 : World} {gr' c' : Nat} (h : DB w cs p t g gwp R MP MQ gr c gw d u) (hn : MQ.pg.length = 8) (hl : l.length = 8) (hF : FineL l) (hr : Row u2 gr' l) (h2 : l.length ≤ c') (h3 : c' ≤ maxLen) (hb : Below u.heap.size u u2) (h1 : gr' = gr ∨ u.heap.size ≤ gr') :
    DB w cs p t g gwp R MP (withP MQ l) gr' c' gw d (u2.setCell ⟨R, 8, none⟩ (.slice (some ⟨gr', 0, none⟩) 8 c')) := by
  have x1 := h.duo.pageR (by rw [hl, hn]) hF h.size hr h2 h3 hb h1
  rw [hn] at x1
  have h5 := h.duo.b5
  exact ⟨x1, (h.low.trans (hb.mono h.size)).setCell h5 _⟩
end
/-- what a round of the two loops holds -/
def MdSt (w : World) (cs : Array Value) (p t g gwp R : Nat) (L F : List Int) (o k : Nat) (wr : World) : Prop := ∃ ws gr c gw d, DB w cs p t g gwp R ⟨g0, bL1, ws⟩ ⟨g0, bL1, ws⟩ gr c gw d wr ∧ ws.length = 128 ∧ lay ws (o + k) (L.drop k) = F
theorem newR8 (u : World) : Calls Tryz.prog 15 #[.int .i64 8] u fun e w' => ∃ gr c gw d, e = .returned (rV g0 gr 8 c gw 128 d) ∧ Rm w' gr c gw d ⟨g0, zeros 8, List.replicate 128 0⟩ ∧ u.heap.size ≤ gr ∧ u.heap.size ≤ gw ∧ Below u.heap.size u w' := newR_any 8 u
theorem newP8 (u : World) : Calls Tryz.prog 14 #[.int .i64 8] u (NewPm ⟨g0, zeros 8, List.replicate 128 0⟩ u) := newP_any 8 u
theorem DB.belowS {w : World} {cs : Array Value} {p t g gwp R gr c gw d : Nat} {MP MQ : Mm} {u u' : World} (h : DB w cs p t g gwp R MP MQ gr c gw d u) (hb : Below u.heap.size u u') : DB w cs p t g gwp R MP MQ gr c gw d u' := ⟨h.duo.belowS hb, h.low.trans (hb.mono h.size)⟩
theorem db_new {w w1 w2 : World} {cs : Array Value} {p t g gwp gr c gw d : Nat} (hP : Pm w1 p t g gwp ⟨g0, zeros 8, List.replicate 128 0⟩) (hp : w.heap.size + 1 + 1 ≤ p) (ht : w.heap.size + 1 + 1 ≤ t) (hg : w.heap.size + 1 + 1 ≤ g) (hgw : w.heap.size + 1 + 1 ≤ gwp) (hb : Below (w.heap.size + 1 + 1) (mdW w cs) w1)
    (hR : Rm w2 gr c gw d ⟨g0, zeros 8, List.replicate 128 0⟩) (h1 : w1.heap.size ≤ gr) (h2 : w1.heap.size ≤ gw) (hb2 : Below w1.heap.size w1 w2) :
    DB w cs p t g gwp w2.heap.size ⟨g0, zeros 8, List.replicate 128 0⟩ ⟨g0, zeros 8, List.replicate 128 0⟩ gr c gw d (w2.alloc (.cells (rCs g0 gr 8 c gw 128 d) 36)) := by
  have hl := hP.lt
  have hs := hb2.size
  exact ⟨duo_new (newM_ok (n := 8) (by omega)) hP hp ht hg hgw (by omega) hR h1 h2 hb2, (hb.trans (hb2.mono (by omega))).alloc (by omega) _⟩
theorem made_end {w u : World} {cs : Array Value} {p t g gwp R gr c gw d : Nat} {M : Mm} (h : DB w cs p t g gwp R M M gr c gw d u) (hn : M.pg.length = 8) (hm : M.ws.length = 128) (Z : Whole u (w.heap.size + 1) 36 zCs) :
    Made M w (.returned (.tuple #[.pointer (some ⟨p, 0, none⟩), rV M.gt gr 8 c gw 128 d])) (putB u (w.heap.size + 1) M.gt gr 8 c gw 128 d).drew := by
  have F := putB_fr u (w.heap.size + 1) M.gt gr 8 c gw 128 d
  obtain ⟨D, low⟩ := h
  have D2 := D.fr F (fun i hi => Or.inl (by omega))
  have hB := (mdW_facts w cs).1
  have hbl : Below w.heap.size w u := hB.trans (low.mono (by omega))
  have hl := D.lt
  obtain ⟨_, _, _, _, _, _, b1, b2, b3, b4, b5, b6, b7⟩ := id D
  have hbd : Below (putB u (w.heap.size + 1) M.gt gr 8 c gw 128 d).heap.size (putB u (w.heap.size + 1) M.gt gr 8 c gw 128 d) (putB u (w.heap.size + 1) M.gt gr 8 c gw 128 d).drew := (Below.refl _ _).drew
  refine ⟨p, t, g, gwp, gr, c, gw, d, by rw [hn, hm], D2.pm.belowS hbd, D2.rm.belowS hbd, D.hgr, D.hgw, by omega, by omega, by omega, by omega, by omega, by omega, (PR.Below.fr hbl F hbl.size (by rintro i rfl; omega)).drew⟩
/-- two cells that a round reads -/
abbrev LC2 (b i g j : Nat) (x y : Value) (u : World) : Prop := u.cell? ⟨b, i, none⟩ = some x ∧ u.cell? ⟨g, j, none⟩ = some y
theorem lc_fr {S : Nat → Prop} {b i g j : Nat} {x y : Value} {u v : World} (hf : Fr S u v) (h : LC2 b i g j x y u) (h1 : ¬ S b) (h2 : ¬ S g) : LC2 b i g j x y v := by
  have k1 := hf.block b (World.block_lt_of_cell? u _ h.1) h1
  have k2 := hf.block g (World.block_lt_of_cell? u _ h.2) h2
  exact ⟨(World.cell?_of_block (w := u) (a := ⟨b, i, none⟩) k1).trans h.1, (World.cell?_of_block (w := u) (a := ⟨g, j, none⟩) k2).trans h.2⟩
end Go.Proofs.YtihcellcdkhadaaGreat.HF
