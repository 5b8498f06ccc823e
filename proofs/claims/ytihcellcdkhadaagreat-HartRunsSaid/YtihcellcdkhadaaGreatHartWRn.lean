/-
  The law HartRuns, walked. Nothing here is a statement of the seed.
-/
import Derived.Test.YtihcellcdkhadaaGreatHartTry
import Derived.Test.YtihcellcdkhadaaGreatHartSame
import Derived.Test.YtihcellcdkhadaaGreatHartMade
import Derived.Test.YtihcellcdkhadaaGreatHartEqR
import Derived.Test.YtihcellcdkhadaaGreatHartRZ
import Derived.Test.YtihcellcdkhadaaGreatHartMath6
import Derived.Deep.RegionHeld3
import Derived.Deep.CutRange
set_option linter.unusedSimpArgs false
set_option linter.unusedVariables false
namespace Go.Proofs.YtihcellcdkhadaaGreat.HF
open Go.RowKit PM PR PF MM MR MF HM HR
/-- bytes as cells -/
def bcs (l : List Int) : List Value := l.map fun x => .int .u8 x
theorem bcs_len (l : List Int) : (bcs l).length = l.length := by simp [bcs]
/-- a byte that is read -/
theorem rb_at {B : Nat} {w : World} {a : Option Addr} {n c : Nat} {l : List Int} (h : Reads (· < B) w (.slice a n c) (bcs l)) {k : Nat} (hk : k < n) : ∃ g off, a = some ⟨g, off, none⟩ ∧ g < B ∧ n ≤ c ∧ w.cell? ⟨g, off + k, none⟩ = some (.int .u8 (l.getD k 0)) := by
  obtain ⟨a', cap, e, h1, h2, h3, h4⟩ := h
  rw [bcs_len] at e h1 h4
  simp only [Value.slice.injEq] at e
  obtain ⟨rfl, rfl, rfl⟩ := e
  rcases h4 with h4 | ⟨g, off, rfl, hg, hc⟩
  · have : l.length = 0 := by rw [← bcs_len, h4]; rfl
    omega
  · refine ⟨g, off, rfl, hg, h1, (hc k hk).trans ?_⟩
    simp [bcs, hk]
theorem sk_base {w : World} {B B' n c : Nat} {a : Option Addr} {l : List Int} (h : Sk w B a n c l) (hB : B' ≤ B) : Sk w B' a n c l := ⟨h.1, h.2.imp id (fun ⟨g, cap, cur, e, hb, hr⟩ => ⟨g, cap, cur, e, Nat.le_trans hB hb, hr⟩)⟩
/-- a hart's variable is made -/
theorem wa_H {op : Oper} {a : Act} {w : World} {K : Act → World → Prop} {Q : Exit → Act → World → Prop} {d : Tmp} (ho : op.op = .alloc 30) (hd : op.dst = some d) (h : ∀ V, Whole V w.heap.size 30 hZ → Below w.heap.size w V → K (a.put (some d) (.pointer (some ⟨w.heap.size, 0, none⟩))) V) : op.wp Tryz.prog a w K Q := by
  have hh := h (w.alloc (.cells hZ 30)) (Whole.new ..) (below_new ..)
  unfold Oper.wp execOp
  simp only [ho]
  go_simp
  exact hh
section
variable {B p t g gwp R gr c gw d : Nat} {MP MQ : Mm} {u v : World}
/-- another variable has turned -/
theorem Duo.box_ (h : Duo B p t g gwp R MP MQ gr c gw d u) {b : Nat} {ty : TypeId} {cs : Array Value} (W : Whole u b ty cs) (hne : ty ≠ 23) (hf : Fr (fun i => i = b) u v) (h1 : b ≠ p) (h2 : b ≠ t) (h3 : b ≠ g) (h4 : b ≠ R) (h5 : b ≠ gr) : Duo B p t g gwp R MP MQ gr c gw d v := by
  have n1 : b ≠ gwp := h.pm.wr.ne_ W hne
  have n2 : b ≠ gw := h.rm.wr.ne_ W hne
  exact ⟨h.pm.fr hf h1.symm h2.symm h3.symm n1.symm, h.rm.fr hf h5.symm n2.symm, h.ok, h.hgr, h.hgw, h.box.fr hf h4.symm, h.b1, h.b2, h.b3, h.b4, h.b5, h.b6, h.b7⟩
/-- the reference's memory lies anew in its variable -/
theorem Duo.word2 {gw' d' : Nat} {MQ' : Mm} (hd : Duo B p t g gwp R MP MQ gr c gw d u) (rm : Rm u gr c gw' d' MQ') (ok : MOk MQ') (h1 : gw' ≠ gwp) (h2 : B ≤ gw') :
    Duo B p t g gwp R MP MQ' gr c gw' d' (putB u R MQ'.gt gr MQ'.pg.length c gw' MQ'.ws.length d') := by
  obtain ⟨n1, n2, n3, n4, n5, n6, n7, n8, n9, n10, n11, n12⟩ := hd.ne
  have F := putB_fr u R MQ'.gt gr MQ'.pg.length c gw' MQ'.ws.length d'
  have n13 : R ≠ gw' := rm.wr.ne_ hd.box (by decide)
  exact ⟨hd.pm.fr F n1.symm n2.symm n3.symm n4.symm, rm.fr F n5.symm n13.symm, ok, hd.hgr, h1, putB_whole hd.box rfl .., hd.b1, hd.b2, hd.b3, hd.b4, hd.b5, hd.b6, h2⟩
end
/-- both harts in their variables, both memories: between two steps -/
structure RunJ (T B0 p t g gw b2 bx bv : Nat) (MP MQ : Mm) (gr c2 gwr d : Nat) (hx : Ht) (a1 : Option Addr) (n1 c1 : Nat) (hy : Ht) (a2 : Option Addr) (n2 c3 : Nat) (w u : World) : Prop where
  D : Duo B0 p t g gw b2 MP MQ gr c2 gwr d u
  X : Whole u bx 30 (hCs hx.pc hx.r a1 n1 c1 hx.why hx.ep hx.home)
  Y : Whole u bv 30 (hCs hy.pc hy.r a2 n2 c3 hy.why hy.ep hy.home)
  kx : Sk u T a1 n1 c1 hx.sk
  ky : Sk u T a2 n2 c3 hy.sk
  B : Below w.heap.size w u
  lo : (p < T ∧ t < T ∧ g < T ∧ gw < T ∧ b2 < T ∧ gr < T ∧ T ≤ bx ∧ T ≤ bv ∧ bx ≠ bv) ∧ w.heap.size ≤ B0 ∧ B0 ≤ T ∧ T ≤ u.heap.size
section
variable {T B0 p t g gw b2 bx bv : Nat} {MP MQ : Mm} {gr c2 gwr d : Nat} {hx : Ht} {a1 : Option Addr} {n1 c1 : Nat} {hy : Ht} {a2 : Option Addr} {n2 c3 : Nat} {w u v : World}
theorem RunJ.belowS (j : RunJ T B0 p t g gw b2 bx bv MP MQ gr c2 gwr d hx a1 n1 c1 hy a2 n2 c3 w u) (hb : Below u.heap.size u v) : RunJ T B0 p t g gw b2 bx bv MP MQ gr c2 gwr d hx a1 n1 c1 hy a2 n2 c3 w v :=
  ⟨j.D.belowS hb, j.X.belowS hb, j.Y.belowS hb, j.kx.belowS hb, j.ky.belowS hb, j.B.trans (hb.mono j.B.size), ⟨j.lo.1, j.lo.2.1, j.lo.2.2.1, Nat.le_trans j.lo.2.2.2 hb.size⟩⟩
/-- the program's step -/
theorem RunJ.prog {MP' : Mm} (j : RunJ T B0 p t g gw b2 bx bv MP MQ gr c2 gwr d hx a1 n1 c1 hy a2 n2 c3 w u) (hf : Fr (MS p g gw) u v) (hP : Pm v p t g gw MP') : RunJ T B0 p t g gw b2 bx bv MP' MQ gr c2 gwr d hx a1 n1 c1 hy a2 n2 c3 w v := by
  obtain ⟨⟨l1, l2, l3, l4, l5, l6, l7, l8, l9⟩, l10, l11, l12⟩ := j.lo
  have d1 := j.D.b1
  have d3 := j.D.b3
  have d4 := j.D.b4
  refine ⟨j.D.prog hf hP, j.X.fr hf (by rintro (e | e | e) <;> omega), j.Y.fr hf (by rintro (e | e | e) <;> omega), j.kx.fr hf (fun k hk => ?_), j.ky.fr hf (fun k hk => ?_), PR.Below.fr j.B hf j.B.size (by rintro i (rfl | rfl | rfl) <;> omega), j.lo.1, l10, l11, Nat.le_trans l12 hf.size⟩
  · have := (World.ownsRow.lt j.kx k hk).1
    rintro (e | e | e) <;> omega
  · have := (World.ownsRow.lt j.ky k hk).1
    rintro (e | e | e) <;> omega
/-- another variable has turned -/
theorem RunJ.side (j : RunJ T B0 p t g gw b2 bx bv MP MQ gr c2 gwr d hx a1 n1 c1 hy a2 n2 c3 w u) {b : Nat} {ty : TypeId} {cs : Array Value} (W : Whole u b ty cs) (hne : ty ≠ 23) (hf : Fr (fun i => i = b) u v) (hT : T ≤ b) (h1 : b ≠ bx) (h2 : b ≠ bv) : RunJ T B0 p t g gw b2 bx bv MP MQ gr c2 gwr d hx a1 n1 c1 hy a2 n2 c3 w v := by
  obtain ⟨⟨l1, l2, l3, l4, l5, l6, l7, l8, l9⟩, l10, l11, l12⟩ := j.lo
  exact ⟨j.D.box_ W hne hf (by omega) (by omega) (by omega) (by omega) (by omega), j.X.fr hf h1.symm, j.Y.fr hf h2.symm, j.kx.fr hf (fun k hk e => j.kx.ne_ W hne (by rw [hk, e])), j.ky.fr hf (fun k hk e => j.ky.ne_ W hne (by rw [hk, e])), PR.Below.fr j.B hf j.B.size (by rintro i rfl; omega), j.lo.1, l10, l11, Nat.le_trans l12 hf.size⟩
/-- the program's hart laid -/
theorem RunJ.setX (j : RunJ T B0 p t g gw b2 bx bv MP MQ gr c2 gwr d hx a1 n1 c1 hy a2 n2 c3 w u) {h4 : Ht} {a4 : Option Addr} {n4 c4 : Nat} (k4 : Sk u T a4 n4 c4 h4.sk) : RunJ T B0 p t g gw b2 bx bv MP MQ gr c2 gwr d h4 a4 n4 c4 hy a2 n2 c3 w (putH u bx h4.pc (h4.r 0) (h4.r 1) (h4.r 2) (h4.r 3) (h4.r 4) (h4.r 5) (h4.r 6) (h4.r 7) a4 n4 c4 h4.why h4.ep h4.home) := by
  obtain ⟨⟨l1, l2, l3, l4, l5, l6, l7, l8, l9⟩, l10, l11, l12⟩ := j.lo
  have hf := putH_fr u bx h4.pc (h4.r 0) (h4.r 1) (h4.r 2) (h4.r 3) (h4.r 4) (h4.r 5) (h4.r 6) (h4.r 7) a4 n4 c4 h4.why h4.ep h4.home
  exact ⟨j.D.box_ j.X (by decide) hf (by omega) (by omega) (by omega) (by omega) (by omega), putH_whole j.X rfl .., j.Y.fr hf l9.symm, k4.fr hf (fun k hk e => k4.ne_ j.X (by decide) (by rw [hk, e])), j.ky.fr hf (fun k hk e => j.ky.ne_ j.X (by decide) (by rw [hk, e])), PR.Below.fr j.B hf j.B.size (by rintro i rfl; omega), j.lo.1, l10, l11, Nat.le_trans l12 hf.size⟩
/-- the reference's hart laid -/
theorem RunJ.setY (j : RunJ T B0 p t g gw b2 bx bv MP MQ gr c2 gwr d hx a1 n1 c1 hy a2 n2 c3 w u) {h4 : Ht} {a4 : Option Addr} {n4 c4 : Nat} (k4 : Sk u T a4 n4 c4 h4.sk) : RunJ T B0 p t g gw b2 bx bv MP MQ gr c2 gwr d hx a1 n1 c1 h4 a4 n4 c4 w (putH u bv h4.pc (h4.r 0) (h4.r 1) (h4.r 2) (h4.r 3) (h4.r 4) (h4.r 5) (h4.r 6) (h4.r 7) a4 n4 c4 h4.why h4.ep h4.home) := by
  obtain ⟨⟨l1, l2, l3, l4, l5, l6, l7, l8, l9⟩, l10, l11, l12⟩ := j.lo
  have hf := putH_fr u bv h4.pc (h4.r 0) (h4.r 1) (h4.r 2) (h4.r 3) (h4.r 4) (h4.r 5) (h4.r 6) (h4.r 7) a4 n4 c4 h4.why h4.ep h4.home
  exact ⟨j.D.box_ j.Y (by decide) hf (by omega) (by omega) (by omega) (by omega) (by omega), j.X.fr hf l9, putH_whole j.Y rfl .., j.kx.fr hf (fun k hk e => j.kx.ne_ j.Y (by decide) (by rw [hk, e])), k4.fr hf (fun k hk e => k4.ne_ j.Y (by decide) (by rw [hk, e])), PR.Below.fr j.B hf j.B.size (by rintro i rfl; omega), j.lo.1, l10, l11, Nat.le_trans l12 hf.size⟩
/-- the reference's memory laid -/
theorem RunJ.setM (j : RunJ T B0 p t g gw b2 bx bv MP MQ gr c2 gwr d hx a1 n1 c1 hy a2 n2 c3 w u) {gw' d' : Nat} {MQ' : Mm} (rm : Rm u gr c2 gw' d' MQ') (ok : MOk MQ') (h1 : gw' = gwr ∨ T ≤ gw') : RunJ T B0 p t g gw b2 bx bv MP MQ' gr c2 gw' d' hx a1 n1 c1 hy a2 n2 c3 w (putB u b2 MQ'.gt gr MQ'.pg.length c2 gw' MQ'.ws.length d') := by
  obtain ⟨⟨l1, l2, l3, l4, l5, l6, l7, l8, l9⟩, l10, l11, l12⟩ := j.lo
  have hf := putB_fr u b2 MQ'.gt gr MQ'.pg.length c2 gw' MQ'.ws.length d'
  have e1 := j.D.hgw
  have e2 := j.D.b7
  have e3 := j.D.b5
  exact ⟨j.D.word2 rm ok (by omega) (by omega), j.X.fr hf (by omega), j.Y.fr hf (by omega), j.kx.fr hf (fun k hk e => j.kx.ne_ j.D.box (by decide) (by rw [hk, e])), j.ky.fr hf (fun k hk e => j.ky.ne_ j.D.box (by decide) (by rw [hk, e])), PR.Below.fr j.B hf j.B.size (by rintro i rfl; omega), j.lo.1, l10, l11, Nat.le_trans l12 hf.size⟩
end
/-- both harts laid for the first time -/
theorem run_start {T B0 p t g gw b2 : Nat} {M : Mm} {gr c2 gwr d : Nat} {pc : Int} {R : Nat → Int} {L : List Int} {why ep home : Int} {m : Nat} {w W V : World} (D : Duo B0 p t g gw b2 M M gr c2 gwr d W) (B : Below w.heap.size w W) (hB : w.heap.size ≤ B0) (jB : Below W.heap.size W V) (hT : T = W.heap.size) (hBT : B0 ≤ T) {p9 p10 : Nat} {a1 : Option Addr} {c1 : Nat} {a2 : Option Addr} {c3 : Nat} (w9 : Whole V p9 30 hZ) (w10 : Whole V p10 30 hZ) (k1 : Sk V T a1 m c1 L) (k2 : Sk V T a2 m c3 L) (l9 : T ≤ p9) (l10 : T ≤ p10) (hne : p9 ≠ p10) :
    RunJ T B0 p t g gw b2 p9 p10 M M gr c2 gwr d ⟨pc, R, L, why, ep, home⟩ a1 m c1 ⟨pc, R, L, why, ep, home⟩ a2 m c3 w (putH (putH V p9 pc (R 0) (R 1) (R 2) (R 3) (R 4) (R 5) (R 6) (R 7) a1 m c1 why ep home) p10 pc (R 0) (R 1) (R 2) (R 3) (R 4) (R 5) (R 6) (R 7) a2 m c3 why ep home) := by
  have hl := D.lt
  subst hT
  have D1 := D.belowS jB
  have F1 := putH_fr V p9 pc (R 0) (R 1) (R 2) (R 3) (R 4) (R 5) (R 6) (R 7) a1 m c1 why ep home
  have D2 := D1.box_ w9 (by decide) F1 (by omega) (by omega) (by omega) (by omega) (by omega)
  have x1 := putH_whole w9 rfl pc (R 0) (R 1) (R 2) (R 3) (R 4) (R 5) (R 6) (R 7) a1 m c1 why ep home
  have y1 := w10.fr F1 hne.symm
  have s1 := k1.fr F1 (fun k hk e => k1.ne_ w9 (by decide) (by rw [hk, e]))
  have s2 := k2.fr F1 (fun k hk e => k2.ne_ w9 (by decide) (by rw [hk, e]))
  have B1 : Below w.heap.size w V := B.trans (jB.mono B.size)
  have B2 := PR.Below.fr B1 F1 B1.size (by rintro i rfl; omega)
  have hs := jB.size
  have hs1 := F1.size
  generalize putH V p9 pc (R 0) (R 1) (R 2) (R 3) (R 4) (R 5) (R 6) (R 7) a1 m c1 why ep home = V1 at *
  have F2 := putH_fr V1 p10 pc (R 0) (R 1) (R 2) (R 3) (R 4) (R 5) (R 6) (R 7) a2 m c3 why ep home
  have hs2 := F2.size
  exact ⟨D2.box_ y1 (by decide) F2 (by omega) (by omega) (by omega) (by omega) (by omega), x1.fr F2 hne, putH_whole y1 rfl .., s1.fr F2 (fun k hk e => s1.ne_ y1 (by decide) (by rw [hk, e])), s2.fr F2 (fun k hk e => s2.ne_ y1 (by decide) (by rw [hk, e])), PR.Below.fr B2 F2 B2.size (by rintro i rfl; omega), ⟨by omega, hB, hBT, by omega⟩⟩
/-- a stack grows by one at the most, and never above sixteen -/
theorem step_len {h : Ht} {M : Mm} (mk : MOk M) (xe : Int) : (stepR h M xe).h.sk.length ≤ max h.sk.length 16 := by
  rcases (step_gd (h := h) mk xe).h with ⟨_, _, _, e, _⟩ | ⟨_, _, _, _, e⟩
  · rw [e]; simp
  · omega
theorem nn_facts (w : World) (ca cb : Array Value) : Below w.heap.size w ((w.alloc (.cells ca 41)).alloc (.cells cb 44)) ∧ Whole ((w.alloc (.cells ca 41)).alloc (.cells cb 44)) w.heap.size 41 ca ∧ Whole ((w.alloc (.cells ca 41)).alloc (.cells cb 44)) (w.heap.size + 1) 44 cb := by
  refine ⟨bl2 .., (Whole.new w _ _).alloc _, ?_⟩
  have := Whole.new (w.alloc (.cells ca 41)) 44 cb
  simpa using this
end Go.Proofs.YtihcellcdkhadaaGreat.HF
namespace Go.Proofs.YtihcellcdkhadaaGreat.WK
open Go.RowKit PM PR PF MM MR MF HM HR HF
set_option maxHeartbeats 16000000
set_option maxRecDepth 10000
theorem HartRuns_walk {w : World} {s : Option Addr} {n c : Nat} {l : List Int} {s' : Option Addr} {n' c' : Nat} {l' : List Int} {gt : Int} {rt : Bool} {h : Ht} {a : Option Addr} {m q : Nat} {ea : Option Addr} {en ec : Nat} {es : List Int} (hc : Rs w.heap.size w s n c l) (hd : Rs w.heap.size w s' n' c' l') (hr : Rs w.heap.size w a m q h.sk) (hn : h.sk.length * 4 ≤ 140737488355328) (bc : ∀ x ∈ l, B32 x) (bd : ∀ x ∈ l', B32 x) (bg : B32 gt) (ok : HOk h) (he : Reads (· < w.heap.size) w (.slice ea en ec) (bcs es)) (be : ∀ x ∈ es, 0 ≤ x ∧ x ≤ 255) :
    Calls Tryz.prog 4 #[.agg #[.slice s n c, .slice s' n' c', .int .u32 gt, .bool rt], hV h.pc h.r a m q h.why h.ep h.home, .slice ea en ec] w fun e w' => e = .returned (.bool true) ∧ Below w.heap.size w w' := by
  have AW := Lib.hid awake_any
  obtain ⟨ea', ecap, ee, he1, he2, he3, he4⟩ := id he
  rw [bcs_len] at ee he1
  simp only [Value.slice.injEq] at ee
  obtain ⟨rfl, rfl, rfl⟩ := ee
  have hE0 : (es.length : Int) ≤ 9223372036854775807 := by unfold maxLen at he2; omega
  by_cases h100 : 100 < es.length
  · have h100' : (100 : Int) < es.length := by omega
    obtain ⟨T0, T1, T2⟩ := lhb_facts w (ldCs s n c s' n' c' gt rt) (hCs h.pc h.r a m q h.why h.ep h.home)
    have TT := Lib.hid T0
    obtain ⟨pc, R, L, why, ep, home⟩ := h
    clear hc hd hr hn bc bd bg ok he be he1 he2 he3 he4 T0 T1 T2
    go_enter Tryz.func4, Tryz.ntmps4
    go_wp2_with (go_at_call 12; (with_reducible refine (AW.out _).mono ?_); rintro e w9 ⟨rfl, hb⟩; have HZ := Lib.hid hb; clear hb)
    go_ret
    exact ⟨rfl, TT.out.trans (HZ.out.mono TT.out.size)⟩
  have h100' : (es.length : Int) ≤ 100 := by omega
  have hlm := hr.len
  obtain ⟨T0, T1, T2⟩ := lhb_facts w (ldCs s n c s' n' c' gt rt) (hCs h.pc h.r a m q h.why h.ep h.home)
  have CM := Lib.hid (show Calls _ _ #[.agg #[.slice s n c, .slice s' n' c', .int .u32 gt, .bool rt]] _ _ from made_any (rs_go hc T0 T0.size) (rs_go hd T0 T0.size) gt rt)
  have mk := land_ok l l' gt rt
  have wk := land_wok bc bd bg rt
  have CP := Lib.hid (fun (u : World) (hb : Below w.heap.size w u) => refCopy_any (rs_go hr hb hb.size) (by omega) h.pc h.r h.why h.ep h.home)
  have HOO := Lib.hid (And.intro ok (And.intro mk (And.intro wk hn)))
  generalize landM l l' gt rt = M at *
  obtain ⟨pc, R, L, why, ep, home⟩ := h
  simp only at *
  have TT := Lib.hid (And.intro T0 T2)
  have HM := Lib.hid mk
  have HLM := Lib.hid hlm.1
  clear T0 T1 T2 mk wk hc hd hr hn hlm bc bd bg ok
  go_enter Tryz.func4, Tryz.ntmps4
  go_upto_region 4 with (go_at_call 6; (with_reducible refine CM.out.mono ?_); rintro e w2 ⟨p, t, g, gw, gr, c2, gwr, d, rfl, pm, rm, hgr, hgwr, hp, ht, hg, hgw, hgr2, hgwr2, hb2⟩; have D2 := Lib.hid (duo_mk HM.out pm rm hgr hgwr hp ht hg hgw hb2.size hgr2 hgwr2); have B2 := Lib.hid hb2; clear pm rm hb2 hgr hgwr hp ht hg hgw hgr2 hgwr2)
  have X2 := Lib.hid ((TT.out.2.belowS B2.out).alloc (.cells (rCs M.gt gr M.pg.length c2 gwr M.ws.length d) 36))
  have B3 := Lib.hid ((TT.out.1.trans (B2.out.mono TT.out.1.size)).alloc (Nat.le_trans TT.out.1.size B2.out.size) (.cells (rCs M.gt gr M.pg.length c2 gwr M.ws.length d) 36))
  have hB0 : w.heap.size + 1 + 1 ≤ ((w.alloc (.cells (ldCs s n c s' n' c' gt rt) 25)).alloc (.cells (hCs pc R a m q why ep home) 30)).heap.size := by simp
  clear TT B2 CM HM
  generalize ((w.alloc _).alloc _).heap.size = B0 at *
  generalize w2.heap.size = b2 at *
  generalize (w2.alloc _) = W2 at *
  have hlo := Lib.hid D2.out.lt
  have hw1 := X2.out.lt
  have CP2 := Lib.hid (fun (u : World) (hb : Below W2.heap.size W2 u) => CP.out u (B3.out.trans (hb.mono B3.out.size)))
  clear CP
  obtain ⟨T, hTT⟩ : ∃ T, T = W2.heap.size := ⟨_, rfl⟩
  have hT : T ≤ W2.heap.size := by omega
  have hwB : w.heap.size ≤ B0 := by omega
  have hBT : B0 ≤ T := by have h1 := D2.out.b1; have h2 := hlo.out.1; omega
  go_cut [9, 10] from 23 to 26 (fun v9 v10 wx => ∃ (bx bv : Nat) (a1 : Option Addr) (c1 : Nat) (a2 : Option Addr) (c3 : Nat), v9 = .pointer (some ⟨bx, 0, none⟩) ∧ v10 = .pointer (some ⟨bv, 0, none⟩) ∧ Hid (RunJ T B0 p t g gw b2 bx bv M M gr c2 gwr d ⟨pc, R, L, why, ep, home⟩ a1 m c1 ⟨pc, R, L, why, ep, home⟩ a2 m c3 w wx))
  case first =>
    have SX : HC (w.heap.size + 1) pc (R 0) (R 1) (R 2) (R 3) (R 4) (R 5) (R 6) (R 7) a m q why ep home W2.drew := hart_cells (X2.out.belowS (Below.refl _ _).drew)
    have jB : Below W2.heap.size W2 W2.drew := (Below.refl _ _).drew
    refine wp_region_held_drew (S := fun u => HC (w.heap.size + 1) pc (R 0) (R 1) (R 2) (R 3) (R 4) (R 5) (R 6) (R 7) a m q why ep home u) (by kernel_rfl) SX (fun hHeld => ?_)
    refine wpAnyH_take (i := 0) (v := ?vv1) rfl (by kernel_rfl) (by kernel_rfl) (by kernel_rfl) (fun _ _ _ h => h) (Or.inl ⟨by rfl, ?hy1⟩) (by assumption) ?rest1
    case hy1 =>
      intro u hSu
      obtain ⟨s0, s1, s2, s3, s4, s5, s6, s7, s8, s9, s10, s11, s12⟩ := hSu
      go_simp
      try with_reducible rfl
    try simp only [Act.put, List.getElem_toArray, List.getElem_cons_succ, List.getElem_cons_zero, List.setIfInBounds_toArray, List.set_cons_zero, List.set_cons_succ]
    refine wpAnyH_take (i := 2) (v := ?vv2) rfl (by kernel_rfl) (by kernel_rfl) (by kernel_rfl) (fun _ _ _ h => h) (Or.inl ⟨by rfl, ?hy2⟩) (by assumption) ?rest2
    case hy2 =>
      intro u hSu
      obtain ⟨s0, s1, s2, s3, s4, s5, s6, s7, s8, s9, s10, s11, s12⟩ := hSu
      go_simp
      try with_reducible rfl
    try simp only [Act.put, List.getElem_toArray, List.getElem_cons_succ, List.getElem_cons_zero, List.setIfInBounds_toArray, List.set_cons_zero, List.set_cons_succ]
    refine wpAnyH_ready (rs := [1, 4, 5]) (by kernel_rfl) (by simp) ?_
    refine AllReadyH.cons rfl (fun K hK => ?_) (AllReadyH.cons rfl (fun K hK => ?_) (AllReadyH.cons rfl (fun K hK => ?_) AllReadyH.nil))
    · have jT : T ≤ W2.drew.heap.size := Nat.le_trans hT jB.size
      go_simp
      go_at_call 7
      (with_reducible refine (CP2.out W2.drew jB).mono ?_)
      rintro e U1 ⟨a1, c1, rfl, k1, hb⟩
      have k10 := k1
      clear k1
      replace jB := below_of jB hb
      replace SX := hc_go SX hb
      have k1 : Sk U1 T a1 m c1 L := sk_base k10 jT
      clear k10
      refine hK.out _ _ ?hS3 (fun hHeld => ?rst3)
      case hS3 => exact SX
      clear hK K
      try simp only [Act.put, List.getElem_toArray, List.getElem_cons_succ, List.getElem_cons_zero, List.setIfInBounds_toArray, List.set_cons_zero, List.set_cons_succ]
      clear hb jT
      refine wpAnyH_ready (rs := [3, 4, 5]) (by kernel_rfl) (by simp) ?_
      refine AllReadyH.cons rfl (fun K hK => ?_) (AllReadyH.cons rfl (fun K hK => ?_) (AllReadyH.cons rfl (fun K hK => ?_) AllReadyH.nil))
      · have jT : T ≤ U1.heap.size := Nat.le_trans hT jB.size
        go_simp
        go_at_call 7
        (with_reducible refine (CP2.out U1 jB).mono ?_)
        rintro e U2 ⟨a2, c3, rfl, k2, hb⟩
        have k20 := k2
        clear k2
        replace jB := below_of jB hb
        replace SX := hc_go SX hb
        replace k1 := k1.belowS hb
        have k2 : Sk U2 T a2 m c3 L := sk_base k20 jT
        clear k20
        refine hK.out _ _ ?hS4 (fun hHeld => ?rst4)
        case hS4 => exact SX
        clear hK K
        try simp only [Act.put, List.getElem_toArray, List.getElem_cons_succ, List.getElem_cons_zero, List.setIfInBounds_toArray, List.set_cons_zero, List.set_cons_succ]
        clear hb jT
        refine wpAnyH_ready (rs := [4, 5]) (by kernel_rfl) (by simp) ?_
        refine AllReadyH.cons rfl (fun K hK => ?_) (AllReadyH.cons rfl (fun K hK => ?_) AllReadyH.nil)
        · have jT : T ≤ U2.heap.size := Nat.le_trans hT jB.size
          refine wa_H rfl rfl (fun U3 w9 hb => ?_)
          replace jB := below_of jB hb
          replace SX := hc_go SX hb
          replace k1 := k1.belowS hb
          replace k2 := k2.belowS hb
          refine hK.out _ _ ?hS5 (fun hHeld => ?rst5)
          case hS5 => exact SX
          clear hK K
          try simp only [Act.put, List.getElem_toArray, List.getElem_cons_succ, List.getElem_cons_zero, List.setIfInBounds_toArray, List.set_cons_zero, List.set_cons_succ]
          generalize hp9 : U2.heap.size = p9 at *
          clear hp9
          have l9 := jT
          clear jT hb
          refine wpAnyH_ready (rs := [5]) (by kernel_rfl) (by simp) ?_
          refine AllReadyH.cons rfl (fun K hK => ?_) AllReadyH.nil
          have jT : T ≤ U3.heap.size := Nat.le_trans hT jB.size
          have hne : p9 ≠ U3.heap.size := by have := w9.lt; omega
          refine wa_H rfl rfl (fun U4 w10 hb => ?_)
          replace jB := below_of jB hb
          replace SX := hc_go SX hb
          replace k1 := k1.belowS hb
          replace k2 := k2.belowS hb
          replace w9 := w9.belowS hb
          refine hK.out _ _ ?hS6 (fun hHeld => ?rst6)
          case hS6 => exact SX
          clear hK K
          try simp only [Act.put, List.getElem_toArray, List.getElem_cons_succ, List.getElem_cons_zero, List.setIfInBounds_toArray, List.set_cons_zero, List.set_cons_succ]
          generalize hp10 : U3.heap.size = p10 at *
          clear hp10
          have l10 := jT
          clear jT hb
          first | (have hne' : p9 ≠ p10 := hne) | (have hne' : p9 ≠ p10 := hne.symm)
          have JJ := Lib.hid (run_start (pc := pc) (R := R) (why := why) (ep := ep) (home := home) D2.out B3.out hwB jB hTT hBT w9 w10 k1 k2 l9 l10 hne')
          refine wpAnyH_ready (rs := [6]) (by kernel_rfl) (by simp) ?_
          refine AllReadyH.cons rfl (fun K hK => ?_) AllReadyH.nil
          refine ws_H rfl rfl w9 rfl rfl rfl ?_
          refine hK.out _ _ ?hS7 (fun hHeld => ?rst7)
          case hS7 => exact hc_fr (putH_fr _ _ ..) SX (by omega)
          clear hK K
          try simp only [Act.put, List.getElem_toArray, List.getElem_cons_succ, List.getElem_cons_zero, List.setIfInBounds_toArray, List.set_cons_zero, List.set_cons_succ]
          replace SX : HC (w.heap.size + 1) pc (R 0) (R 1) (R 2) (R 3) (R 4) (R 5) (R 6) (R 7) a m q why ep home (putH U4 p9 pc (R 0) (R 1) (R 2) (R 3) (R 4) (R 5) (R 6) (R 7) a1 m c1 why ep home) := hc_fr (putH_fr U4 p9 pc (R 0) (R 1) (R 2) (R 3) (R 4) (R 5) (R 6) (R 7) a1 m c1 why ep home) SX (by omega)
          replace w10 := w10.fr (putH_fr U4 p9 pc (R 0) (R 1) (R 2) (R 3) (R 4) (R 5) (R 6) (R 7) a1 m c1 why ep home) (fun e => hne' e.symm)
          generalize hW1 : putH U4 p9 pc (R 0) (R 1) (R 2) (R 3) (R 4) (R 5) (R 6) (R 7) a1 m c1 why ep home = V1 at *
          refine wpAnyH_ready (rs := [7]) (by kernel_rfl) (by simp) ?_
          refine AllReadyH.cons rfl (fun K hK => ?_) AllReadyH.nil
          refine ws_H rfl rfl w10 rfl rfl rfl ?_
          refine hK.out _ _ ?hS8 (fun hHeld => ?rst8)
          case hS8 => exact hc_fr (putH_fr _ _ ..) SX (by omega)
          clear hK K
          try simp only [Act.put, List.getElem_toArray, List.getElem_cons_succ, List.getElem_cons_zero, List.setIfInBounds_toArray, List.set_cons_zero, List.set_cons_succ]
          have JJ' := JJ.out
          clear JJ w10 SX
          generalize hW2 : putH V1 p10 pc (R 0) (R 1) (R 2) (R 3) (R 4) (R 5) (R 6) (R 7) a2 m c3 why ep home = V2 at *
          refine wpAnyH_done (by kernel_rfl) ?_ _
          go_wp2_with fail
          go_meet
          exact ⟨p9, p10, a1, c1, a2, c3, rfl, rfl, Lib.hid JJ'⟩
        · have jT : T ≤ U2.heap.size := Nat.le_trans hT jB.size
          refine wa_H rfl rfl (fun U5 w10 hb => ?_)
          replace jB := below_of jB hb
          replace SX := hc_go SX hb
          replace k1 := k1.belowS hb
          replace k2 := k2.belowS hb
          refine hK.out _ _ ?hS9 (fun hHeld => ?rst9)
          case hS9 => exact SX
          clear hK K
          try simp only [Act.put, List.getElem_toArray, List.getElem_cons_succ, List.getElem_cons_zero, List.setIfInBounds_toArray, List.set_cons_zero, List.set_cons_succ]
          generalize hp10 : U2.heap.size = p10 at *
          clear hp10
          have l10 := jT
          clear jT hb
          refine wpAnyH_ready (rs := [4]) (by kernel_rfl) (by simp) ?_
          refine AllReadyH.cons rfl (fun K hK => ?_) AllReadyH.nil
          have jT : T ≤ U5.heap.size := Nat.le_trans hT jB.size
          have hne : p10 ≠ U5.heap.size := by have := w10.lt; omega
          refine wa_H rfl rfl (fun U6 w9 hb => ?_)
          replace jB := below_of jB hb
          replace SX := hc_go SX hb
          replace k1 := k1.belowS hb
          replace k2 := k2.belowS hb
          replace w10 := w10.belowS hb
          refine hK.out _ _ ?hS10 (fun hHeld => ?rst10)
          case hS10 => exact SX
          clear hK K
          try simp only [Act.put, List.getElem_toArray, List.getElem_cons_succ, List.getElem_cons_zero, List.setIfInBounds_toArray, List.set_cons_zero, List.set_cons_succ]
          generalize hp9 : U5.heap.size = p9 at *
          clear hp9
          have l9 := jT
          clear jT hb
          first | (have hne' : p9 ≠ p10 := hne) | (have hne' : p9 ≠ p10 := hne.symm)
          have JJ := Lib.hid (run_start (pc := pc) (R := R) (why := why) (ep := ep) (home := home) D2.out B3.out hwB jB hTT hBT w9 w10 k1 k2 l9 l10 hne')
          refine wpAnyH_ready (rs := [6]) (by kernel_rfl) (by simp) ?_
          refine AllReadyH.cons rfl (fun K hK => ?_) AllReadyH.nil
          refine ws_H rfl rfl w9 rfl rfl rfl ?_
          refine hK.out _ _ ?hS11 (fun hHeld => ?rst11)
          case hS11 => exact hc_fr (putH_fr _ _ ..) SX (by omega)
          clear hK K
          try simp only [Act.put, List.getElem_toArray, List.getElem_cons_succ, List.getElem_cons_zero, List.setIfInBounds_toArray, List.set_cons_zero, List.set_cons_succ]
          replace SX : HC (w.heap.size + 1) pc (R 0) (R 1) (R 2) (R 3) (R 4) (R 5) (R 6) (R 7) a m q why ep home (putH U6 p9 pc (R 0) (R 1) (R 2) (R 3) (R 4) (R 5) (R 6) (R 7) a1 m c1 why ep home) := hc_fr (putH_fr U6 p9 pc (R 0) (R 1) (R 2) (R 3) (R 4) (R 5) (R 6) (R 7) a1 m c1 why ep home) SX (by omega)
          replace w10 := w10.fr (putH_fr U6 p9 pc (R 0) (R 1) (R 2) (R 3) (R 4) (R 5) (R 6) (R 7) a1 m c1 why ep home) (fun e => hne' e.symm)
          generalize hW1 : putH U6 p9 pc (R 0) (R 1) (R 2) (R 3) (R 4) (R 5) (R 6) (R 7) a1 m c1 why ep home = V1 at *
          refine wpAnyH_ready (rs := [7]) (by kernel_rfl) (by simp) ?_
          refine AllReadyH.cons rfl (fun K hK => ?_) AllReadyH.nil
          refine ws_H rfl rfl w10 rfl rfl rfl ?_
          refine hK.out _ _ ?hS12 (fun hHeld => ?rst12)
          case hS12 => exact hc_fr (putH_fr _ _ ..) SX (by omega)
          clear hK K
          try simp only [Act.put, List.getElem_toArray, List.getElem_cons_succ, List.getElem_cons_zero, List.setIfInBounds_toArray, List.set_cons_zero, List.set_cons_succ]
          have JJ' := JJ.out
          clear JJ w10 SX
          generalize hW2 : putH V1 p10 pc (R 0) (R 1) (R 2) (R 3) (R 4) (R 5) (R 6) (R 7) a2 m c3 why ep home = V2 at *
          refine wpAnyH_done (by kernel_rfl) ?_ _
          go_wp2_with fail
          go_meet
          exact ⟨p9, p10, a1, c1, a2, c3, rfl, rfl, Lib.hid JJ'⟩
      · have jT : T ≤ U1.heap.size := Nat.le_trans hT jB.size
        refine wa_H rfl rfl (fun U7 w9 hb => ?_)
        replace jB := below_of jB hb
        replace SX := hc_go SX hb
        replace k1 := k1.belowS hb
        refine hK.out _ _ ?hS13 (fun hHeld => ?rst13)
        case hS13 => exact SX
        clear hK K
        try simp only [Act.put, List.getElem_toArray, List.getElem_cons_succ, List.getElem_cons_zero, List.setIfInBounds_toArray, List.set_cons_zero, List.set_cons_succ]
        generalize hp9 : U1.heap.size = p9 at *
        clear hp9
        have l9 := jT
        clear jT hb
        refine wpAnyH_ready (rs := [3, 5]) (by kernel_rfl) (by simp) ?_
        refine AllReadyH.cons rfl (fun K hK => ?_) (AllReadyH.cons rfl (fun K hK => ?_) AllReadyH.nil)
        · have jT : T ≤ U7.heap.size := Nat.le_trans hT jB.size
          go_simp
          go_at_call 7
          (with_reducible refine (CP2.out U7 jB).mono ?_)
          rintro e U8 ⟨a2, c3, rfl, k2, hb⟩
          have k20 := k2
          clear k2
          replace jB := below_of jB hb
          replace SX := hc_go SX hb
          replace k1 := k1.belowS hb
          replace w9 := w9.belowS hb
          have k2 : Sk U8 T a2 m c3 L := sk_base k20 jT
          clear k20
          refine hK.out _ _ ?hS14 (fun hHeld => ?rst14)
          case hS14 => exact SX
          clear hK K
          try simp only [Act.put, List.getElem_toArray, List.getElem_cons_succ, List.getElem_cons_zero, List.setIfInBounds_toArray, List.set_cons_zero, List.set_cons_succ]
          clear hb jT
          refine wpAnyH_ready (rs := [5]) (by kernel_rfl) (by simp) ?_
          refine AllReadyH.cons rfl (fun K hK => ?_) AllReadyH.nil
          have jT : T ≤ U8.heap.size := Nat.le_trans hT jB.size
          have hne : p9 ≠ U8.heap.size := by have := w9.lt; omega
          refine wa_H rfl rfl (fun U9 w10 hb => ?_)
          replace jB := below_of jB hb
          replace SX := hc_go SX hb
          replace k1 := k1.belowS hb
          replace k2 := k2.belowS hb
          replace w9 := w9.belowS hb
          refine hK.out _ _ ?hS15 (fun hHeld => ?rst15)
          case hS15 => exact SX
          clear hK K
          try simp only [Act.put, List.getElem_toArray, List.getElem_cons_succ, List.getElem_cons_zero, List.setIfInBounds_toArray, List.set_cons_zero, List.set_cons_succ]
          generalize hp10 : U8.heap.size = p10 at *
          clear hp10
          have l10 := jT
          clear jT hb
          first | (have hne' : p9 ≠ p10 := hne) | (have hne' : p9 ≠ p10 := hne.symm)
          have JJ := Lib.hid (run_start (pc := pc) (R := R) (why := why) (ep := ep) (home := home) D2.out B3.out hwB jB hTT hBT w9 w10 k1 k2 l9 l10 hne')
          refine wpAnyH_ready (rs := [6]) (by kernel_rfl) (by simp) ?_
          refine AllReadyH.cons rfl (fun K hK => ?_) AllReadyH.nil
          refine ws_H rfl rfl w9 rfl rfl rfl ?_
          refine hK.out _ _ ?hS16 (fun hHeld => ?rst16)
          case hS16 => exact hc_fr (putH_fr _ _ ..) SX (by omega)
          clear hK K
          try simp only [Act.put, List.getElem_toArray, List.getElem_cons_succ, List.getElem_cons_zero, List.setIfInBounds_toArray, List.set_cons_zero, List.set_cons_succ]
          replace SX : HC (w.heap.size + 1) pc (R 0) (R 1) (R 2) (R 3) (R 4) (R 5) (R 6) (R 7) a m q why ep home (putH U9 p9 pc (R 0) (R 1) (R 2) (R 3) (R 4) (R 5) (R 6) (R 7) a1 m c1 why ep home) := hc_fr (putH_fr U9 p9 pc (R 0) (R 1) (R 2) (R 3) (R 4) (R 5) (R 6) (R 7) a1 m c1 why ep home) SX (by omega)
          replace w10 := w10.fr (putH_fr U9 p9 pc (R 0) (R 1) (R 2) (R 3) (R 4) (R 5) (R 6) (R 7) a1 m c1 why ep home) (fun e => hne' e.symm)
          generalize hW1 : putH U9 p9 pc (R 0) (R 1) (R 2) (R 3) (R 4) (R 5) (R 6) (R 7) a1 m c1 why ep home = V1 at *
          refine wpAnyH_ready (rs := [7]) (by kernel_rfl) (by simp) ?_
          refine AllReadyH.cons rfl (fun K hK => ?_) AllReadyH.nil
          refine ws_H rfl rfl w10 rfl rfl rfl ?_
          refine hK.out _ _ ?hS17 (fun hHeld => ?rst17)
          case hS17 => exact hc_fr (putH_fr _ _ ..) SX (by omega)
          clear hK K
          try simp only [Act.put, List.getElem_toArray, List.getElem_cons_succ, List.getElem_cons_zero, List.setIfInBounds_toArray, List.set_cons_zero, List.set_cons_succ]
          have JJ' := JJ.out
          clear JJ w10 SX
          generalize hW2 : putH V1 p10 pc (R 0) (R 1) (R 2) (R 3) (R 4) (R 5) (R 6) (R 7) a2 m c3 why ep home = V2 at *
          refine wpAnyH_done (by kernel_rfl) ?_ _
          go_wp2_with fail
          go_meet
          exact ⟨p9, p10, a1, c1, a2, c3, rfl, rfl, Lib.hid JJ'⟩
        · have jT : T ≤ U7.heap.size := Nat.le_trans hT jB.size
          have hne : p9 ≠ U7.heap.size := by have := w9.lt; omega
          refine wa_H rfl rfl (fun U10 w10 hb => ?_)
          replace jB := below_of jB hb
          replace SX := hc_go SX hb
          replace k1 := k1.belowS hb
          replace w9 := w9.belowS hb
          refine hK.out _ _ ?hS18 (fun hHeld => ?rst18)
          case hS18 => exact SX
          clear hK K
          try simp only [Act.put, List.getElem_toArray, List.getElem_cons_succ, List.getElem_cons_zero, List.setIfInBounds_toArray, List.set_cons_zero, List.set_cons_succ]
          generalize hp10 : U7.heap.size = p10 at *
          clear hp10
          have l10 := jT
          clear jT hb
          refine wpAnyH_ready (rs := [3]) (by kernel_rfl) (by simp) ?_
          refine AllReadyH.cons rfl (fun K hK => ?_) AllReadyH.nil
          have jT : T ≤ U10.heap.size := Nat.le_trans hT jB.size
          go_simp
          go_at_call 7
          (with_reducible refine (CP2.out U10 jB).mono ?_)
          rintro e U11 ⟨a2, c3, rfl, k2, hb⟩
          have k20 := k2
          clear k2
          replace jB := below_of jB hb
          replace SX := hc_go SX hb
          replace k1 := k1.belowS hb
          replace w9 := w9.belowS hb
          replace w10 := w10.belowS hb
          have k2 : Sk U11 T a2 m c3 L := sk_base k20 jT
          clear k20
          refine hK.out _ _ ?hS19 (fun hHeld => ?rst19)
          case hS19 => exact SX
          clear hK K
          try simp only [Act.put, List.getElem_toArray, List.getElem_cons_succ, List.getElem_cons_zero, List.setIfInBounds_toArray, List.set_cons_zero, List.set_cons_succ]
          clear hb jT
          first | (have hne' : p9 ≠ p10 := hne) | (have hne' : p9 ≠ p10 := hne.symm)
          have JJ := Lib.hid (run_start (pc := pc) (R := R) (why := why) (ep := ep) (home := home) D2.out B3.out hwB jB hTT hBT w9 w10 k1 k2 l9 l10 hne')
          refine wpAnyH_ready (rs := [6]) (by kernel_rfl) (by simp) ?_
          refine AllReadyH.cons rfl (fun K hK => ?_) AllReadyH.nil
          refine ws_H rfl rfl w9 rfl rfl rfl ?_
          refine hK.out _ _ ?hS20 (fun hHeld => ?rst20)
          case hS20 => exact hc_fr (putH_fr _ _ ..) SX (by omega)
          clear hK K
          try simp only [Act.put, List.getElem_toArray, List.getElem_cons_succ, List.getElem_cons_zero, List.setIfInBounds_toArray, List.set_cons_zero, List.set_cons_succ]
          replace SX : HC (w.heap.size + 1) pc (R 0) (R 1) (R 2) (R 3) (R 4) (R 5) (R 6) (R 7) a m q why ep home (putH U11 p9 pc (R 0) (R 1) (R 2) (R 3) (R 4) (R 5) (R 6) (R 7) a1 m c1 why ep home) := hc_fr (putH_fr U11 p9 pc (R 0) (R 1) (R 2) (R 3) (R 4) (R 5) (R 6) (R 7) a1 m c1 why ep home) SX (by omega)
          replace w10 := w10.fr (putH_fr U11 p9 pc (R 0) (R 1) (R 2) (R 3) (R 4) (R 5) (R 6) (R 7) a1 m c1 why ep home) (fun e => hne' e.symm)
          generalize hW1 : putH U11 p9 pc (R 0) (R 1) (R 2) (R 3) (R 4) (R 5) (R 6) (R 7) a1 m c1 why ep home = V1 at *
          refine wpAnyH_ready (rs := [7]) (by kernel_rfl) (by simp) ?_
          refine AllReadyH.cons rfl (fun K hK => ?_) AllReadyH.nil
          refine ws_H rfl rfl w10 rfl rfl rfl ?_
          refine hK.out _ _ ?hS21 (fun hHeld => ?rst21)
          case hS21 => exact hc_fr (putH_fr _ _ ..) SX (by omega)
          clear hK K
          try simp only [Act.put, List.getElem_toArray, List.getElem_cons_succ, List.getElem_cons_zero, List.setIfInBounds_toArray, List.set_cons_zero, List.set_cons_succ]
          have JJ' := JJ.out
          clear JJ w10 SX
          generalize hW2 : putH V1 p10 pc (R 0) (R 1) (R 2) (R 3) (R 4) (R 5) (R 6) (R 7) a2 m c3 why ep home = V2 at *
          refine wpAnyH_done (by kernel_rfl) ?_ _
          go_wp2_with fail
          go_meet
          exact ⟨p9, p10, a1, c1, a2, c3, rfl, rfl, Lib.hid JJ'⟩
      · have jT : T ≤ U1.heap.size := Nat.le_trans hT jB.size
        refine wa_H rfl rfl (fun U12 w10 hb => ?_)
        replace jB := below_of jB hb
        replace SX := hc_go SX hb
        replace k1 := k1.belowS hb
        refine hK.out _ _ ?hS22 (fun hHeld => ?rst22)
        case hS22 => exact SX
        clear hK K
        try simp only [Act.put, List.getElem_toArray, List.getElem_cons_succ, List.getElem_cons_zero, List.setIfInBounds_toArray, List.set_cons_zero, List.set_cons_succ]
        generalize hp10 : U1.heap.size = p10 at *
        clear hp10
        have l10 := jT
        clear jT hb
        refine wpAnyH_ready (rs := [3, 4]) (by kernel_rfl) (by simp) ?_
        refine AllReadyH.cons rfl (fun K hK => ?_) (AllReadyH.cons rfl (fun K hK => ?_) AllReadyH.nil)
        · have jT : T ≤ U12.heap.size := Nat.le_trans hT jB.size
          go_simp
          go_at_call 7
          (with_reducible refine (CP2.out U12 jB).mono ?_)
          rintro e U13 ⟨a2, c3, rfl, k2, hb⟩
          have k20 := k2
          clear k2
          replace jB := below_of jB hb
          replace SX := hc_go SX hb
          replace k1 := k1.belowS hb
          replace w10 := w10.belowS hb
          have k2 : Sk U13 T a2 m c3 L := sk_base k20 jT
          clear k20
          refine hK.out _ _ ?hS23 (fun hHeld => ?rst23)
          case hS23 => exact SX
          clear hK K
          try simp only [Act.put, List.getElem_toArray, List.getElem_cons_succ, List.getElem_cons_zero, List.setIfInBounds_toArray, List.set_cons_zero, List.set_cons_succ]
          clear hb jT
          refine wpAnyH_ready (rs := [4]) (by kernel_rfl) (by simp) ?_
          refine AllReadyH.cons rfl (fun K hK => ?_) AllReadyH.nil
          have jT : T ≤ U13.heap.size := Nat.le_trans hT jB.size
          have hne : p10 ≠ U13.heap.size := by have := w10.lt; omega
          refine wa_H rfl rfl (fun U14 w9 hb => ?_)
          replace jB := below_of jB hb
          replace SX := hc_go SX hb
          replace k1 := k1.belowS hb
          replace k2 := k2.belowS hb
          replace w10 := w10.belowS hb
          refine hK.out _ _ ?hS24 (fun hHeld => ?rst24)
          case hS24 => exact SX
          clear hK K
          try simp only [Act.put, List.getElem_toArray, List.getElem_cons_succ, List.getElem_cons_zero, List.setIfInBounds_toArray, List.set_cons_zero, List.set_cons_succ]
          generalize hp9 : U13.heap.size = p9 at *
          clear hp9
          have l9 := jT
          clear jT hb
          first | (have hne' : p9 ≠ p10 := hne) | (have hne' : p9 ≠ p10 := hne.symm)
          have JJ := Lib.hid (run_start (pc := pc) (R := R) (why := why) (ep := ep) (home := home) D2.out B3.out hwB jB hTT hBT w9 w10 k1 k2 l9 l10 hne')
          refine wpAnyH_ready (rs := [6]) (by kernel_rfl) (by simp) ?_
          refine AllReadyH.cons rfl (fun K hK => ?_) AllReadyH.nil
          refine ws_H rfl rfl w9 rfl rfl rfl ?_
          refine hK.out _ _ ?hS25 (fun hHeld => ?rst25)
          case hS25 => exact hc_fr (putH_fr _ _ ..) SX (by omega)
          clear hK K
          try simp only [Act.put, List.getElem_toArray, List.getElem_cons_succ, List.getElem_cons_zero, List.setIfInBounds_toArray, List.set_cons_zero, List.set_cons_succ]
          replace SX : HC (w.heap.size + 1) pc (R 0) (R 1) (R 2) (R 3) (R 4) (R 5) (R 6) (R 7) a m q why ep home (putH U14 p9 pc (R 0) (R 1) (R 2) (R 3) (R 4) (R 5) (R 6) (R 7) a1 m c1 why ep home) := hc_fr (putH_fr U14 p9 pc (R 0) (R 1) (R 2) (R 3) (R 4) (R 5) (R 6) (R 7) a1 m c1 why ep home) SX (by omega)
          replace w10 := w10.fr (putH_fr U14 p9 pc (R 0) (R 1) (R 2) (R 3) (R 4) (R 5) (R 6) (R 7) a1 m c1 why ep home) (fun e => hne' e.symm)
          generalize hW1 : putH U14 p9 pc (R 0) (R 1) (R 2) (R 3) (R 4) (R 5) (R 6) (R 7) a1 m c1 why ep home = V1 at *
          refine wpAnyH_ready (rs := [7]) (by kernel_rfl) (by simp) ?_
          refine AllReadyH.cons rfl (fun K hK => ?_) AllReadyH.nil
          refine ws_H rfl rfl w10 rfl rfl rfl ?_
          refine hK.out _ _ ?hS26 (fun hHeld => ?rst26)
          case hS26 => exact hc_fr (putH_fr _ _ ..) SX (by omega)
          clear hK K
          try simp only [Act.put, List.getElem_toArray, List.getElem_cons_succ, List.getElem_cons_zero, List.setIfInBounds_toArray, List.set_cons_zero, List.set_cons_succ]
          have JJ' := JJ.out
          clear JJ w10 SX
          generalize hW2 : putH V1 p10 pc (R 0) (R 1) (R 2) (R 3) (R 4) (R 5) (R 6) (R 7) a2 m c3 why ep home = V2 at *
          refine wpAnyH_done (by kernel_rfl) ?_ _
          go_wp2_with fail
          go_meet
          exact ⟨p9, p10, a1, c1, a2, c3, rfl, rfl, Lib.hid JJ'⟩
        · have jT : T ≤ U12.heap.size := Nat.le_trans hT jB.size
          have hne : p10 ≠ U12.heap.size := by have := w10.lt; omega
          refine wa_H rfl rfl (fun U15 w9 hb => ?_)
          replace jB := below_of jB hb
          replace SX := hc_go SX hb
          replace k1 := k1.belowS hb
          replace w10 := w10.belowS hb
          refine hK.out _ _ ?hS27 (fun hHeld => ?rst27)
          case hS27 => exact SX
          clear hK K
          try simp only [Act.put, List.getElem_toArray, List.getElem_cons_succ, List.getElem_cons_zero, List.setIfInBounds_toArray, List.set_cons_zero, List.set_cons_succ]
          generalize hp9 : U12.heap.size = p9 at *
          clear hp9
          have l9 := jT
          clear jT hb
          refine wpAnyH_ready (rs := [3]) (by kernel_rfl) (by simp) ?_
          refine AllReadyH.cons rfl (fun K hK => ?_) AllReadyH.nil
          have jT : T ≤ U15.heap.size := Nat.le_trans hT jB.size
          go_simp
          go_at_call 7
          (with_reducible refine (CP2.out U15 jB).mono ?_)
          rintro e U16 ⟨a2, c3, rfl, k2, hb⟩
          have k20 := k2
          clear k2
          replace jB := below_of jB hb
          replace SX := hc_go SX hb
          replace k1 := k1.belowS hb
          replace w9 := w9.belowS hb
          replace w10 := w10.belowS hb
          have k2 : Sk U16 T a2 m c3 L := sk_base k20 jT
          clear k20
          refine hK.out _ _ ?hS28 (fun hHeld => ?rst28)
          case hS28 => exact SX
          clear hK K
          try simp only [Act.put, List.getElem_toArray, List.getElem_cons_succ, List.getElem_cons_zero, List.setIfInBounds_toArray, List.set_cons_zero, List.set_cons_succ]
          clear hb jT
          first | (have hne' : p9 ≠ p10 := hne) | (have hne' : p9 ≠ p10 := hne.symm)
          have JJ := Lib.hid (run_start (pc := pc) (R := R) (why := why) (ep := ep) (home := home) D2.out B3.out hwB jB hTT hBT w9 w10 k1 k2 l9 l10 hne')
          refine wpAnyH_ready (rs := [6]) (by kernel_rfl) (by simp) ?_
          refine AllReadyH.cons rfl (fun K hK => ?_) AllReadyH.nil
          refine ws_H rfl rfl w9 rfl rfl rfl ?_
          refine hK.out _ _ ?hS29 (fun hHeld => ?rst29)
          case hS29 => exact hc_fr (putH_fr _ _ ..) SX (by omega)
          clear hK K
          try simp only [Act.put, List.getElem_toArray, List.getElem_cons_succ, List.getElem_cons_zero, List.setIfInBounds_toArray, List.set_cons_zero, List.set_cons_succ]
          replace SX : HC (w.heap.size + 1) pc (R 0) (R 1) (R 2) (R 3) (R 4) (R 5) (R 6) (R 7) a m q why ep home (putH U16 p9 pc (R 0) (R 1) (R 2) (R 3) (R 4) (R 5) (R 6) (R 7) a1 m c1 why ep home) := hc_fr (putH_fr U16 p9 pc (R 0) (R 1) (R 2) (R 3) (R 4) (R 5) (R 6) (R 7) a1 m c1 why ep home) SX (by omega)
          replace w10 := w10.fr (putH_fr U16 p9 pc (R 0) (R 1) (R 2) (R 3) (R 4) (R 5) (R 6) (R 7) a1 m c1 why ep home) (fun e => hne' e.symm)
          generalize hW1 : putH U16 p9 pc (R 0) (R 1) (R 2) (R 3) (R 4) (R 5) (R 6) (R 7) a1 m c1 why ep home = V1 at *
          refine wpAnyH_ready (rs := [7]) (by kernel_rfl) (by simp) ?_
          refine AllReadyH.cons rfl (fun K hK => ?_) AllReadyH.nil
          refine ws_H rfl rfl w10 rfl rfl rfl ?_
          refine hK.out _ _ ?hS30 (fun hHeld => ?rst30)
          case hS30 => exact hc_fr (putH_fr _ _ ..) SX (by omega)
          clear hK K
          try simp only [Act.put, List.getElem_toArray, List.getElem_cons_succ, List.getElem_cons_zero, List.setIfInBounds_toArray, List.set_cons_zero, List.set_cons_succ]
          have JJ' := JJ.out
          clear JJ w10 SX
          generalize hW2 : putH V1 p10 pc (R 0) (R 1) (R 2) (R 3) (R 4) (R 5) (R 6) (R 7) a2 m c3 why ep home = V2 at *
          refine wpAnyH_done (by kernel_rfl) ?_ _
          go_wp2_with fail
          go_meet
          exact ⟨p9, p10, a1, c1, a2, c3, rfl, rfl, Lib.hid JJ'⟩
    · have jT : T ≤ W2.drew.heap.size := Nat.le_trans hT jB.size
      refine wa_H rfl rfl (fun U17 w9 hb => ?_)
      replace jB := below_of jB hb
      replace SX := hc_go SX hb
      refine hK.out _ _ ?hS31 (fun hHeld => ?rst31)
      case hS31 => exact SX
      clear hK K
      try simp only [Act.put, List.getElem_toArray, List.getElem_cons_succ, List.getElem_cons_zero, List.setIfInBounds_toArray, List.set_cons_zero, List.set_cons_succ]
      generalize hp9 : W2.drew.heap.size = p9 at *
      clear hp9
      have l9 := jT
      clear jT hb
      refine wpAnyH_ready (rs := [1, 5]) (by kernel_rfl) (by simp) ?_
      refine AllReadyH.cons rfl (fun K hK => ?_) (AllReadyH.cons rfl (fun K hK => ?_) AllReadyH.nil)
      · have jT : T ≤ U17.heap.size := Nat.le_trans hT jB.size
        go_simp
        go_at_call 7
        (with_reducible refine (CP2.out U17 jB).mono ?_)
        rintro e U18 ⟨a1, c1, rfl, k1, hb⟩
        have k10 := k1
        clear k1
        replace jB := below_of jB hb
        replace SX := hc_go SX hb
        replace w9 := w9.belowS hb
        have k1 : Sk U18 T a1 m c1 L := sk_base k10 jT
        clear k10
        refine hK.out _ _ ?hS32 (fun hHeld => ?rst32)
        case hS32 => exact SX
        clear hK K
        try simp only [Act.put, List.getElem_toArray, List.getElem_cons_succ, List.getElem_cons_zero, List.setIfInBounds_toArray, List.set_cons_zero, List.set_cons_succ]
        clear hb jT
        refine wpAnyH_ready (rs := [3, 5]) (by kernel_rfl) (by simp) ?_
        refine AllReadyH.cons rfl (fun K hK => ?_) (AllReadyH.cons rfl (fun K hK => ?_) AllReadyH.nil)
        · have jT : T ≤ U18.heap.size := Nat.le_trans hT jB.size
          go_simp
          go_at_call 7
          (with_reducible refine (CP2.out U18 jB).mono ?_)
          rintro e U19 ⟨a2, c3, rfl, k2, hb⟩
          have k20 := k2
          clear k2
          replace jB := below_of jB hb
          replace SX := hc_go SX hb
          replace k1 := k1.belowS hb
          replace w9 := w9.belowS hb
          have k2 : Sk U19 T a2 m c3 L := sk_base k20 jT
          clear k20
          refine hK.out _ _ ?hS33 (fun hHeld => ?rst33)
          case hS33 => exact SX
          clear hK K
          try simp only [Act.put, List.getElem_toArray, List.getElem_cons_succ, List.getElem_cons_zero, List.setIfInBounds_toArray, List.set_cons_zero, List.set_cons_succ]
          clear hb jT
          refine wpAnyH_ready (rs := [5]) (by kernel_rfl) (by simp) ?_
          refine AllReadyH.cons rfl (fun K hK => ?_) AllReadyH.nil
          have jT : T ≤ U19.heap.size := Nat.le_trans hT jB.size
          have hne : p9 ≠ U19.heap.size := by have := w9.lt; omega
          refine wa_H rfl rfl (fun U20 w10 hb => ?_)
          replace jB := below_of jB hb
          replace SX := hc_go SX hb
          replace k1 := k1.belowS hb
          replace k2 := k2.belowS hb
          replace w9 := w9.belowS hb
          refine hK.out _ _ ?hS34 (fun hHeld => ?rst34)
          case hS34 => exact SX
          clear hK K
          try simp only [Act.put, List.getElem_toArray, List.getElem_cons_succ, List.getElem_cons_zero, List.setIfInBounds_toArray, List.set_cons_zero, List.set_cons_succ]
          generalize hp10 : U19.heap.size = p10 at *
          clear hp10
          have l10 := jT
          clear jT hb
          first | (have hne' : p9 ≠ p10 := hne) | (have hne' : p9 ≠ p10 := hne.symm)
          have JJ := Lib.hid (run_start (pc := pc) (R := R) (why := why) (ep := ep) (home := home) D2.out B3.out hwB jB hTT hBT w9 w10 k1 k2 l9 l10 hne')
          refine wpAnyH_ready (rs := [6]) (by kernel_rfl) (by simp) ?_
          refine AllReadyH.cons rfl (fun K hK => ?_) AllReadyH.nil
          refine ws_H rfl rfl w9 rfl rfl rfl ?_
          refine hK.out _ _ ?hS35 (fun hHeld => ?rst35)
          case hS35 => exact hc_fr (putH_fr _ _ ..) SX (by omega)
          clear hK K
          try simp only [Act.put, List.getElem_toArray, List.getElem_cons_succ, List.getElem_cons_zero, List.setIfInBounds_toArray, List.set_cons_zero, List.set_cons_succ]
          replace SX : HC (w.heap.size + 1) pc (R 0) (R 1) (R 2) (R 3) (R 4) (R 5) (R 6) (R 7) a m q why ep home (putH U20 p9 pc (R 0) (R 1) (R 2) (R 3) (R 4) (R 5) (R 6) (R 7) a1 m c1 why ep home) := hc_fr (putH_fr U20 p9 pc (R 0) (R 1) (R 2) (R 3) (R 4) (R 5) (R 6) (R 7) a1 m c1 why ep home) SX (by omega)
          replace w10 := w10.fr (putH_fr U20 p9 pc (R 0) (R 1) (R 2) (R 3) (R 4) (R 5) (R 6) (R 7) a1 m c1 why ep home) (fun e => hne' e.symm)
          generalize hW1 : putH U20 p9 pc (R 0) (R 1) (R 2) (R 3) (R 4) (R 5) (R 6) (R 7) a1 m c1 why ep home = V1 at *
          refine wpAnyH_ready (rs := [7]) (by kernel_rfl) (by simp) ?_
          refine AllReadyH.cons rfl (fun K hK => ?_) AllReadyH.nil
          refine ws_H rfl rfl w10 rfl rfl rfl ?_
          refine hK.out _ _ ?hS36 (fun hHeld => ?rst36)
          case hS36 => exact hc_fr (putH_fr _ _ ..) SX (by omega)
          clear hK K
          try simp only [Act.put, List.getElem_toArray, List.getElem_cons_succ, List.getElem_cons_zero, List.setIfInBounds_toArray, List.set_cons_zero, List.set_cons_succ]
          have JJ' := JJ.out
          clear JJ w10 SX
          generalize hW2 : putH V1 p10 pc (R 0) (R 1) (R 2) (R 3) (R 4) (R 5) (R 6) (R 7) a2 m c3 why ep home = V2 at *
          refine wpAnyH_done (by kernel_rfl) ?_ _
          go_wp2_with fail
          go_meet
          exact ⟨p9, p10, a1, c1, a2, c3, rfl, rfl, Lib.hid JJ'⟩
        · have jT : T ≤ U18.heap.size := Nat.le_trans hT jB.size
          have hne : p9 ≠ U18.heap.size := by have := w9.lt; omega
          refine wa_H rfl rfl (fun U21 w10 hb => ?_)
          replace jB := below_of jB hb
          replace SX := hc_go SX hb
          replace k1 := k1.belowS hb
          replace w9 := w9.belowS hb
          refine hK.out _ _ ?hS37 (fun hHeld => ?rst37)
          case hS37 => exact SX
          clear hK K
          try simp only [Act.put, List.getElem_toArray, List.getElem_cons_succ, List.getElem_cons_zero, List.setIfInBounds_toArray, List.set_cons_zero, List.set_cons_succ]
          generalize hp10 : U18.heap.size = p10 at *
          clear hp10
          have l10 := jT
          clear jT hb
          refine wpAnyH_ready (rs := [3]) (by kernel_rfl) (by simp) ?_
          refine AllReadyH.cons rfl (fun K hK => ?_) AllReadyH.nil
          have jT : T ≤ U21.heap.size := Nat.le_trans hT jB.size
          go_simp
          go_at_call 7
          (with_reducible refine (CP2.out U21 jB).mono ?_)
          rintro e U22 ⟨a2, c3, rfl, k2, hb⟩
          have k20 := k2
          clear k2
          replace jB := below_of jB hb
          replace SX := hc_go SX hb
          replace k1 := k1.belowS hb
          replace w9 := w9.belowS hb
          replace w10 := w10.belowS hb
          have k2 : Sk U22 T a2 m c3 L := sk_base k20 jT
          clear k20
          refine hK.out _ _ ?hS38 (fun hHeld => ?rst38)
          case hS38 => exact SX
          clear hK K
          try simp only [Act.put, List.getElem_toArray, List.getElem_cons_succ, List.getElem_cons_zero, List.setIfInBounds_toArray, List.set_cons_zero, List.set_cons_succ]
          clear hb jT
          first | (have hne' : p9 ≠ p10 := hne) | (have hne' : p9 ≠ p10 := hne.symm)
          have JJ := Lib.hid (run_start (pc := pc) (R := R) (why := why) (ep := ep) (home := home) D2.out B3.out hwB jB hTT hBT w9 w10 k1 k2 l9 l10 hne')
          refine wpAnyH_ready (rs := [6]) (by kernel_rfl) (by simp) ?_
          refine AllReadyH.cons rfl (fun K hK => ?_) AllReadyH.nil
          refine ws_H rfl rfl w9 rfl rfl rfl ?_
          refine hK.out _ _ ?hS39 (fun hHeld => ?rst39)
          case hS39 => exact hc_fr (putH_fr _ _ ..) SX (by omega)
          clear hK K
          try simp only [Act.put, List.getElem_toArray, List.getElem_cons_succ, List.getElem_cons_zero, List.setIfInBounds_toArray, List.set_cons_zero, List.set_cons_succ]
          replace SX : HC (w.heap.size + 1) pc (R 0) (R 1) (R 2) (R 3) (R 4) (R 5) (R 6) (R 7) a m q why ep home (putH U22 p9 pc (R 0) (R 1) (R 2) (R 3) (R 4) (R 5) (R 6) (R 7) a1 m c1 why ep home) := hc_fr (putH_fr U22 p9 pc (R 0) (R 1) (R 2) (R 3) (R 4) (R 5) (R 6) (R 7) a1 m c1 why ep home) SX (by omega)
          replace w10 := w10.fr (putH_fr U22 p9 pc (R 0) (R 1) (R 2) (R 3) (R 4) (R 5) (R 6) (R 7) a1 m c1 why ep home) (fun e => hne' e.symm)
          generalize hW1 : putH U22 p9 pc (R 0) (R 1) (R 2) (R 3) (R 4) (R 5) (R 6) (R 7) a1 m c1 why ep home = V1 at *
          refine wpAnyH_ready (rs := [7]) (by kernel_rfl) (by simp) ?_
          refine AllReadyH.cons rfl (fun K hK => ?_) AllReadyH.nil
          refine ws_H rfl rfl w10 rfl rfl rfl ?_
          refine hK.out _ _ ?hS40 (fun hHeld => ?rst40)
          case hS40 => exact hc_fr (putH_fr _ _ ..) SX (by omega)
          clear hK K
          try simp only [Act.put, List.getElem_toArray, List.getElem_cons_succ, List.getElem_cons_zero, List.setIfInBounds_toArray, List.set_cons_zero, List.set_cons_succ]
          have JJ' := JJ.out
          clear JJ w10 SX
          generalize hW2 : putH V1 p10 pc (R 0) (R 1) (R 2) (R 3) (R 4) (R 5) (R 6) (R 7) a2 m c3 why ep home = V2 at *
          refine wpAnyH_done (by kernel_rfl) ?_ _
          go_wp2_with fail
          go_meet
          exact ⟨p9, p10, a1, c1, a2, c3, rfl, rfl, Lib.hid JJ'⟩
      · have jT : T ≤ U17.heap.size := Nat.le_trans hT jB.size
        have hne : p9 ≠ U17.heap.size := by have := w9.lt; omega
        refine wa_H rfl rfl (fun U23 w10 hb => ?_)
        replace jB := below_of jB hb
        replace SX := hc_go SX hb
        replace w9 := w9.belowS hb
        refine hK.out _ _ ?hS41 (fun hHeld => ?rst41)
        case hS41 => exact SX
        clear hK K
        try simp only [Act.put, List.getElem_toArray, List.getElem_cons_succ, List.getElem_cons_zero, List.setIfInBounds_toArray, List.set_cons_zero, List.set_cons_succ]
        generalize hp10 : U17.heap.size = p10 at *
        clear hp10
        have l10 := jT
        clear jT hb
        refine wpAnyH_ready (rs := [1]) (by kernel_rfl) (by simp) ?_
        refine AllReadyH.cons rfl (fun K hK => ?_) AllReadyH.nil
        have jT : T ≤ U23.heap.size := Nat.le_trans hT jB.size
        go_simp
        go_at_call 7
        (with_reducible refine (CP2.out U23 jB).mono ?_)
        rintro e U24 ⟨a1, c1, rfl, k1, hb⟩
        have k10 := k1
        clear k1
        replace jB := below_of jB hb
        replace SX := hc_go SX hb
        replace w9 := w9.belowS hb
        replace w10 := w10.belowS hb
        have k1 : Sk U24 T a1 m c1 L := sk_base k10 jT
        clear k10
        refine hK.out _ _ ?hS42 (fun hHeld => ?rst42)
        case hS42 => exact SX
        clear hK K
        try simp only [Act.put, List.getElem_toArray, List.getElem_cons_succ, List.getElem_cons_zero, List.setIfInBounds_toArray, List.set_cons_zero, List.set_cons_succ]
        clear hb jT
        refine wpAnyH_ready (rs := [3]) (by kernel_rfl) (by simp) ?_
        refine AllReadyH.cons rfl (fun K hK => ?_) AllReadyH.nil
        have jT : T ≤ U24.heap.size := Nat.le_trans hT jB.size
        go_simp
        go_at_call 7
        (with_reducible refine (CP2.out U24 jB).mono ?_)
        rintro e U25 ⟨a2, c3, rfl, k2, hb⟩
        have k20 := k2
        clear k2
        replace jB := below_of jB hb
        replace SX := hc_go SX hb
        replace k1 := k1.belowS hb
        replace w9 := w9.belowS hb
        replace w10 := w10.belowS hb
        have k2 : Sk U25 T a2 m c3 L := sk_base k20 jT
        clear k20
        refine hK.out _ _ ?hS43 (fun hHeld => ?rst43)
        case hS43 => exact SX
        clear hK K
        try simp only [Act.put, List.getElem_toArray, List.getElem_cons_succ, List.getElem_cons_zero, List.setIfInBounds_toArray, List.set_cons_zero, List.set_cons_succ]
        clear hb jT
        first | (have hne' : p9 ≠ p10 := hne) | (have hne' : p9 ≠ p10 := hne.symm)
        have JJ := Lib.hid (run_start (pc := pc) (R := R) (why := why) (ep := ep) (home := home) D2.out B3.out hwB jB hTT hBT w9 w10 k1 k2 l9 l10 hne')
        refine wpAnyH_ready (rs := [6]) (by kernel_rfl) (by simp) ?_
        refine AllReadyH.cons rfl (fun K hK => ?_) AllReadyH.nil
        refine ws_H rfl rfl w9 rfl rfl rfl ?_
        refine hK.out _ _ ?hS44 (fun hHeld => ?rst44)
        case hS44 => exact hc_fr (putH_fr _ _ ..) SX (by omega)
        clear hK K
        try simp only [Act.put, List.getElem_toArray, List.getElem_cons_succ, List.getElem_cons_zero, List.setIfInBounds_toArray, List.set_cons_zero, List.set_cons_succ]
        replace SX : HC (w.heap.size + 1) pc (R 0) (R 1) (R 2) (R 3) (R 4) (R 5) (R 6) (R 7) a m q why ep home (putH U25 p9 pc (R 0) (R 1) (R 2) (R 3) (R 4) (R 5) (R 6) (R 7) a1 m c1 why ep home) := hc_fr (putH_fr U25 p9 pc (R 0) (R 1) (R 2) (R 3) (R 4) (R 5) (R 6) (R 7) a1 m c1 why ep home) SX (by omega)
        replace w10 := w10.fr (putH_fr U25 p9 pc (R 0) (R 1) (R 2) (R 3) (R 4) (R 5) (R 6) (R 7) a1 m c1 why ep home) (fun e => hne' e.symm)
        generalize hW1 : putH U25 p9 pc (R 0) (R 1) (R 2) (R 3) (R 4) (R 5) (R 6) (R 7) a1 m c1 why ep home = V1 at *
        refine wpAnyH_ready (rs := [7]) (by kernel_rfl) (by simp) ?_
        refine AllReadyH.cons rfl (fun K hK => ?_) AllReadyH.nil
        refine ws_H rfl rfl w10 rfl rfl rfl ?_
        refine hK.out _ _ ?hS45 (fun hHeld => ?rst45)
        case hS45 => exact hc_fr (putH_fr _ _ ..) SX (by omega)
        clear hK K
        try simp only [Act.put, List.getElem_toArray, List.getElem_cons_succ, List.getElem_cons_zero, List.setIfInBounds_toArray, List.set_cons_zero, List.set_cons_succ]
        have JJ' := JJ.out
        clear JJ w10 SX
        generalize hW2 : putH V1 p10 pc (R 0) (R 1) (R 2) (R 3) (R 4) (R 5) (R 6) (R 7) a2 m c3 why ep home = V2 at *
        refine wpAnyH_done (by kernel_rfl) ?_ _
        go_wp2_with fail
        go_meet
        exact ⟨p9, p10, a1, c1, a2, c3, rfl, rfl, Lib.hid JJ'⟩
    · have jT : T ≤ W2.drew.heap.size := Nat.le_trans hT jB.size
      refine wa_H rfl rfl (fun U26 w10 hb => ?_)
      replace jB := below_of jB hb
      replace SX := hc_go SX hb
      refine hK.out _ _ ?hS46 (fun hHeld => ?rst46)
      case hS46 => exact SX
      clear hK K
      try simp only [Act.put, List.getElem_toArray, List.getElem_cons_succ, List.getElem_cons_zero, List.setIfInBounds_toArray, List.set_cons_zero, List.set_cons_succ]
      generalize hp10 : W2.drew.heap.size = p10 at *
      clear hp10
      have l10 := jT
      clear jT hb
      refine wpAnyH_ready (rs := [1, 4]) (by kernel_rfl) (by simp) ?_
      refine AllReadyH.cons rfl (fun K hK => ?_) (AllReadyH.cons rfl (fun K hK => ?_) AllReadyH.nil)
      · have jT : T ≤ U26.heap.size := Nat.le_trans hT jB.size
        go_simp
        go_at_call 7
        (with_reducible refine (CP2.out U26 jB).mono ?_)
        rintro e U27 ⟨a1, c1, rfl, k1, hb⟩
        have k10 := k1
        clear k1
        replace jB := below_of jB hb
        replace SX := hc_go SX hb
        replace w10 := w10.belowS hb
        have k1 : Sk U27 T a1 m c1 L := sk_base k10 jT
        clear k10
        refine hK.out _ _ ?hS47 (fun hHeld => ?rst47)
        case hS47 => exact SX
        clear hK K
        try simp only [Act.put, List.getElem_toArray, List.getElem_cons_succ, List.getElem_cons_zero, List.setIfInBounds_toArray, List.set_cons_zero, List.set_cons_succ]
        clear hb jT
        refine wpAnyH_ready (rs := [3, 4]) (by kernel_rfl) (by simp) ?_
        refine AllReadyH.cons rfl (fun K hK => ?_) (AllReadyH.cons rfl (fun K hK => ?_) AllReadyH.nil)
        · have jT : T ≤ U27.heap.size := Nat.le_trans hT jB.size
          go_simp
          go_at_call 7
          (with_reducible refine (CP2.out U27 jB).mono ?_)
          rintro e U28 ⟨a2, c3, rfl, k2, hb⟩
          have k20 := k2
          clear k2
          replace jB := below_of jB hb
          replace SX := hc_go SX hb
          replace k1 := k1.belowS hb
          replace w10 := w10.belowS hb
          have k2 : Sk U28 T a2 m c3 L := sk_base k20 jT
          clear k20
          refine hK.out _ _ ?hS48 (fun hHeld => ?rst48)
          case hS48 => exact SX
          clear hK K
          try simp only [Act.put, List.getElem_toArray, List.getElem_cons_succ, List.getElem_cons_zero, List.setIfInBounds_toArray, List.set_cons_zero, List.set_cons_succ]
          clear hb jT
          refine wpAnyH_ready (rs := [4]) (by kernel_rfl) (by simp) ?_
          refine AllReadyH.cons rfl (fun K hK => ?_) AllReadyH.nil
          have jT : T ≤ U28.heap.size := Nat.le_trans hT jB.size
          have hne : p10 ≠ U28.heap.size := by have := w10.lt; omega
          refine wa_H rfl rfl (fun U29 w9 hb => ?_)
          replace jB := below_of jB hb
          replace SX := hc_go SX hb
          replace k1 := k1.belowS hb
          replace k2 := k2.belowS hb
          replace w10 := w10.belowS hb
          refine hK.out _ _ ?hS49 (fun hHeld => ?rst49)
          case hS49 => exact SX
          clear hK K
          try simp only [Act.put, List.getElem_toArray, List.getElem_cons_succ, List.getElem_cons_zero, List.setIfInBounds_toArray, List.set_cons_zero, List.set_cons_succ]
          generalize hp9 : U28.heap.size = p9 at *
          clear hp9
          have l9 := jT
          clear jT hb
          first | (have hne' : p9 ≠ p10 := hne) | (have hne' : p9 ≠ p10 := hne.symm)
          have JJ := Lib.hid (run_start (pc := pc) (R := R) (why := why) (ep := ep) (home := home) D2.out B3.out hwB jB hTT hBT w9 w10 k1 k2 l9 l10 hne')
          refine wpAnyH_ready (rs := [6]) (by kernel_rfl) (by simp) ?_
          refine AllReadyH.cons rfl (fun K hK => ?_) AllReadyH.nil
          refine ws_H rfl rfl w9 rfl rfl rfl ?_
          refine hK.out _ _ ?hS50 (fun hHeld => ?rst50)
          case hS50 => exact hc_fr (putH_fr _ _ ..) SX (by omega)
          clear hK K
          try simp only [Act.put, List.getElem_toArray, List.getElem_cons_succ, List.getElem_cons_zero, List.setIfInBounds_toArray, List.set_cons_zero, List.set_cons_succ]
          replace SX : HC (w.heap.size + 1) pc (R 0) (R 1) (R 2) (R 3) (R 4) (R 5) (R 6) (R 7) a m q why ep home (putH U29 p9 pc (R 0) (R 1) (R 2) (R 3) (R 4) (R 5) (R 6) (R 7) a1 m c1 why ep home) := hc_fr (putH_fr U29 p9 pc (R 0) (R 1) (R 2) (R 3) (R 4) (R 5) (R 6) (R 7) a1 m c1 why ep home) SX (by omega)
          replace w10 := w10.fr (putH_fr U29 p9 pc (R 0) (R 1) (R 2) (R 3) (R 4) (R 5) (R 6) (R 7) a1 m c1 why ep home) (fun e => hne' e.symm)
          generalize hW1 : putH U29 p9 pc (R 0) (R 1) (R 2) (R 3) (R 4) (R 5) (R 6) (R 7) a1 m c1 why ep home = V1 at *
          refine wpAnyH_ready (rs := [7]) (by kernel_rfl) (by simp) ?_
          refine AllReadyH.cons rfl (fun K hK => ?_) AllReadyH.nil
          refine ws_H rfl rfl w10 rfl rfl rfl ?_
          refine hK.out _ _ ?hS51 (fun hHeld => ?rst51)
          case hS51 => exact hc_fr (putH_fr _ _ ..) SX (by omega)
          clear hK K
          try simp only [Act.put, List.getElem_toArray, List.getElem_cons_succ, List.getElem_cons_zero, List.setIfInBounds_toArray, List.set_cons_zero, List.set_cons_succ]
          have JJ' := JJ.out
          clear JJ w10 SX
          generalize hW2 : putH V1 p10 pc (R 0) (R 1) (R 2) (R 3) (R 4) (R 5) (R 6) (R 7) a2 m c3 why ep home = V2 at *
          refine wpAnyH_done (by kernel_rfl) ?_ _
          go_wp2_with fail
          go_meet
          exact ⟨p9, p10, a1, c1, a2, c3, rfl, rfl, Lib.hid JJ'⟩
        · have jT : T ≤ U27.heap.size := Nat.le_trans hT jB.size
          have hne : p10 ≠ U27.heap.size := by have := w10.lt; omega
          refine wa_H rfl rfl (fun U30 w9 hb => ?_)
          replace jB := below_of jB hb
          replace SX := hc_go SX hb
          replace k1 := k1.belowS hb
          replace w10 := w10.belowS hb
          refine hK.out _ _ ?hS52 (fun hHeld => ?rst52)
          case hS52 => exact SX
          clear hK K
          try simp only [Act.put, List.getElem_toArray, List.getElem_cons_succ, List.getElem_cons_zero, List.setIfInBounds_toArray, List.set_cons_zero, List.set_cons_succ]
          generalize hp9 : U27.heap.size = p9 at *
          clear hp9
          have l9 := jT
          clear jT hb
          refine wpAnyH_ready (rs := [3]) (by kernel_rfl) (by simp) ?_
          refine AllReadyH.cons rfl (fun K hK => ?_) AllReadyH.nil
          have jT : T ≤ U30.heap.size := Nat.le_trans hT jB.size
          go_simp
          go_at_call 7
          (with_reducible refine (CP2.out U30 jB).mono ?_)
          rintro e U31 ⟨a2, c3, rfl, k2, hb⟩
          have k20 := k2
          clear k2
          replace jB := below_of jB hb
          replace SX := hc_go SX hb
          replace k1 := k1.belowS hb
          replace w9 := w9.belowS hb
          replace w10 := w10.belowS hb
          have k2 : Sk U31 T a2 m c3 L := sk_base k20 jT
          clear k20
          refine hK.out _ _ ?hS53 (fun hHeld => ?rst53)
          case hS53 => exact SX
          clear hK K
          try simp only [Act.put, List.getElem_toArray, List.getElem_cons_succ, List.getElem_cons_zero, List.setIfInBounds_toArray, List.set_cons_zero, List.set_cons_succ]
          clear hb jT
          first | (have hne' : p9 ≠ p10 := hne) | (have hne' : p9 ≠ p10 := hne.symm)
          have JJ := Lib.hid (run_start (pc := pc) (R := R) (why := why) (ep := ep) (home := home) D2.out B3.out hwB jB hTT hBT w9 w10 k1 k2 l9 l10 hne')
          refine wpAnyH_ready (rs := [6]) (by kernel_rfl) (by simp) ?_
          refine AllReadyH.cons rfl (fun K hK => ?_) AllReadyH.nil
          refine ws_H rfl rfl w9 rfl rfl rfl ?_
          refine hK.out _ _ ?hS54 (fun hHeld => ?rst54)
          case hS54 => exact hc_fr (putH_fr _ _ ..) SX (by omega)
          clear hK K
          try simp only [Act.put, List.getElem_toArray, List.getElem_cons_succ, List.getElem_cons_zero, List.setIfInBounds_toArray, List.set_cons_zero, List.set_cons_succ]
          replace SX : HC (w.heap.size + 1) pc (R 0) (R 1) (R 2) (R 3) (R 4) (R 5) (R 6) (R 7) a m q why ep home (putH U31 p9 pc (R 0) (R 1) (R 2) (R 3) (R 4) (R 5) (R 6) (R 7) a1 m c1 why ep home) := hc_fr (putH_fr U31 p9 pc (R 0) (R 1) (R 2) (R 3) (R 4) (R 5) (R 6) (R 7) a1 m c1 why ep home) SX (by omega)
          replace w10 := w10.fr (putH_fr U31 p9 pc (R 0) (R 1) (R 2) (R 3) (R 4) (R 5) (R 6) (R 7) a1 m c1 why ep home) (fun e => hne' e.symm)
          generalize hW1 : putH U31 p9 pc (R 0) (R 1) (R 2) (R 3) (R 4) (R 5) (R 6) (R 7) a1 m c1 why ep home = V1 at *
          refine wpAnyH_ready (rs := [7]) (by kernel_rfl) (by simp) ?_
          refine AllReadyH.cons rfl (fun K hK => ?_) AllReadyH.nil
          refine ws_H rfl rfl w10 rfl rfl rfl ?_
          refine hK.out _ _ ?hS55 (fun hHeld => ?rst55)
          case hS55 => exact hc_fr (putH_fr _ _ ..) SX (by omega)
          clear hK K
          try simp only [Act.put, List.getElem_toArray, List.getElem_cons_succ, List.getElem_cons_zero, List.setIfInBounds_toArray, List.set_cons_zero, List.set_cons_succ]
          have JJ' := JJ.out
          clear JJ w10 SX
          generalize hW2 : putH V1 p10 pc (R 0) (R 1) (R 2) (R 3) (R 4) (R 5) (R 6) (R 7) a2 m c3 why ep home = V2 at *
          refine wpAnyH_done (by kernel_rfl) ?_ _
          go_wp2_with fail
          go_meet
          exact ⟨p9, p10, a1, c1, a2, c3, rfl, rfl, Lib.hid JJ'⟩
      · have jT : T ≤ U26.heap.size := Nat.le_trans hT jB.size
        have hne : p10 ≠ U26.heap.size := by have := w10.lt; omega
        refine wa_H rfl rfl (fun U32 w9 hb => ?_)
        replace jB := below_of jB hb
        replace SX := hc_go SX hb
        replace w10 := w10.belowS hb
        refine hK.out _ _ ?hS56 (fun hHeld => ?rst56)
        case hS56 => exact SX
        clear hK K
        try simp only [Act.put, List.getElem_toArray, List.getElem_cons_succ, List.getElem_cons_zero, List.setIfInBounds_toArray, List.set_cons_zero, List.set_cons_succ]
        generalize hp9 : U26.heap.size = p9 at *
        clear hp9
        have l9 := jT
        clear jT hb
        refine wpAnyH_ready (rs := [1]) (by kernel_rfl) (by simp) ?_
        refine AllReadyH.cons rfl (fun K hK => ?_) AllReadyH.nil
        have jT : T ≤ U32.heap.size := Nat.le_trans hT jB.size
        go_simp
        go_at_call 7
        (with_reducible refine (CP2.out U32 jB).mono ?_)
        rintro e U33 ⟨a1, c1, rfl, k1, hb⟩
        have k10 := k1
        clear k1
        replace jB := below_of jB hb
        replace SX := hc_go SX hb
        replace w9 := w9.belowS hb
        replace w10 := w10.belowS hb
        have k1 : Sk U33 T a1 m c1 L := sk_base k10 jT
        clear k10
        refine hK.out _ _ ?hS57 (fun hHeld => ?rst57)
        case hS57 => exact SX
        clear hK K
        try simp only [Act.put, List.getElem_toArray, List.getElem_cons_succ, List.getElem_cons_zero, List.setIfInBounds_toArray, List.set_cons_zero, List.set_cons_succ]
        clear hb jT
        refine wpAnyH_ready (rs := [3]) (by kernel_rfl) (by simp) ?_
        refine AllReadyH.cons rfl (fun K hK => ?_) AllReadyH.nil
        have jT : T ≤ U33.heap.size := Nat.le_trans hT jB.size
        go_simp
        go_at_call 7
        (with_reducible refine (CP2.out U33 jB).mono ?_)
        rintro e U34 ⟨a2, c3, rfl, k2, hb⟩
        have k20 := k2
        clear k2
        replace jB := below_of jB hb
        replace SX := hc_go SX hb
        replace k1 := k1.belowS hb
        replace w9 := w9.belowS hb
        replace w10 := w10.belowS hb
        have k2 : Sk U34 T a2 m c3 L := sk_base k20 jT
        clear k20
        refine hK.out _ _ ?hS58 (fun hHeld => ?rst58)
        case hS58 => exact SX
        clear hK K
        try simp only [Act.put, List.getElem_toArray, List.getElem_cons_succ, List.getElem_cons_zero, List.setIfInBounds_toArray, List.set_cons_zero, List.set_cons_succ]
        clear hb jT
        first | (have hne' : p9 ≠ p10 := hne) | (have hne' : p9 ≠ p10 := hne.symm)
        have JJ := Lib.hid (run_start (pc := pc) (R := R) (why := why) (ep := ep) (home := home) D2.out B3.out hwB jB hTT hBT w9 w10 k1 k2 l9 l10 hne')
        refine wpAnyH_ready (rs := [6]) (by kernel_rfl) (by simp) ?_
        refine AllReadyH.cons rfl (fun K hK => ?_) AllReadyH.nil
        refine ws_H rfl rfl w9 rfl rfl rfl ?_
        refine hK.out _ _ ?hS59 (fun hHeld => ?rst59)
        case hS59 => exact hc_fr (putH_fr _ _ ..) SX (by omega)
        clear hK K
        try simp only [Act.put, List.getElem_toArray, List.getElem_cons_succ, List.getElem_cons_zero, List.setIfInBounds_toArray, List.set_cons_zero, List.set_cons_succ]
        replace SX : HC (w.heap.size + 1) pc (R 0) (R 1) (R 2) (R 3) (R 4) (R 5) (R 6) (R 7) a m q why ep home (putH U34 p9 pc (R 0) (R 1) (R 2) (R 3) (R 4) (R 5) (R 6) (R 7) a1 m c1 why ep home) := hc_fr (putH_fr U34 p9 pc (R 0) (R 1) (R 2) (R 3) (R 4) (R 5) (R 6) (R 7) a1 m c1 why ep home) SX (by omega)
        replace w10 := w10.fr (putH_fr U34 p9 pc (R 0) (R 1) (R 2) (R 3) (R 4) (R 5) (R 6) (R 7) a1 m c1 why ep home) (fun e => hne' e.symm)
        generalize hW1 : putH U34 p9 pc (R 0) (R 1) (R 2) (R 3) (R 4) (R 5) (R 6) (R 7) a1 m c1 why ep home = V1 at *
        refine wpAnyH_ready (rs := [7]) (by kernel_rfl) (by simp) ?_
        refine AllReadyH.cons rfl (fun K hK => ?_) AllReadyH.nil
        refine ws_H rfl rfl w10 rfl rfl rfl ?_
        refine hK.out _ _ ?hS60 (fun hHeld => ?rst60)
        case hS60 => exact hc_fr (putH_fr _ _ ..) SX (by omega)
        clear hK K
        try simp only [Act.put, List.getElem_toArray, List.getElem_cons_succ, List.getElem_cons_zero, List.setIfInBounds_toArray, List.set_cons_zero, List.set_cons_succ]
        have JJ' := JJ.out
        clear JJ w10 SX
        generalize hW2 : putH V1 p10 pc (R 0) (R 1) (R 2) (R 3) (R 4) (R 5) (R 6) (R 7) a2 m c3 why ep home = V2 at *
        refine wpAnyH_done (by kernel_rfl) ?_ _
        go_wp2_with fail
        go_meet
        exact ⟨p9, p10, a1, c1, a2, c3, rfl, rfl, Lib.hid JJ'⟩
  obtain ⟨bx, bv, a1, c1, a2, c3, rfl, rfl, HJ0⟩ := hcut
  have HE := Lib.hid he
  have HBE := Lib.hid be
  clear D2 X2 B3 CP2 hlo hw1 he be he1 he2 he3 he4 hB0 HLM hwB hBT hT hTT
  go_wp2_with fail
  go_loopw [11] (fun i wr => ∃ (k : Nat) (h' : Ht) (M' : Mm) (a1 : Option Addr) (n1 c1 : Nat) (a2 : Option Addr) (c3 gwr d : Nat), k ≤ es.length ∧ i = .int .i64 (k : Int) ∧ Hid (HOk h' ∧ MOk M' ∧ WOk M' ∧ h'.sk.length * 4 ≤ 140737488355328) ∧ Hid (RunJ T B0 p t g gw b2 bx bv M' M' gr c2 gwr d h' a1 n1 c1 h' a2 n1 c3 w wr)) (fun i _ => es.length - (intOf i).toNat)
  case atStart => exact ⟨0, ⟨pc, R, L, why, ep, home⟩, M, a1, m, c1, a2, c3, gwr, d, by omega, rfl, HOO, HJ0⟩
  case round =>
    clear HJ0 HOO
    obtain ⟨k, h', M', a1, n1, c1, a2, c3, gwr, d, hk, rfl, HO, HJ⟩ := hrel
    by_cases hlt : k < es.length
    · have hlt' : (k : Int) < es.length := by omega
      obtain ⟨eg, eo, rfl, heg, hec, hcell⟩ := rb_at HE.out hlt
      have hec' : (es.length : Int) ≤ ec := by omega
      have heq : es.getD k 0 = es[k] := by simp [hlt]
      have hxb : 0 ≤ es.getD k 0 ∧ es.getD k 0 ≤ 255 := HBE.out _ (by rw [heq]; exact List.getElem_mem hlt)
      clear heq
      generalize es.getD k 0 = x at *
      obtain ⟨hx0, hx1⟩ := hxb
      have CS := Lib.hid (fun (u : World) (j : RunJ T B0 p t g gw b2 bx bv M' M' gr c2 gwr d h' a1 n1 c1 h' a2 n1 c3 w u) => step_any (h := h') j.D.pm j.kx.reads (by have h1 := j.kx.len; have h2 := HO.out.2.2.2; omega) HO.out.1 HO.out.2.2.1 x)
      have CR := Lib.hid (fun (MP : Mm) (h4 : Ht) (a4 : Option Addr) (n4 c4 : Nat) (u : World) (j : RunJ T B0 p t g gw b2 bx bv MP M' gr c2 gwr d h4 a4 n4 c4 h' a2 n1 c3 w u) => rstep_any (h := h') j.D.rm HO.out.2.1 HO.out.2.2.1 j.ky.reads (by have h1 := j.ky.len; have h2 := HO.out.2.2.2; omega) HO.out.1 x)
      obtain ⟨r1, r2, r3⟩ := step_ok HO.out.1 HO.out.2.1 HO.out.2.2.1 x
      have r4 := step_len (h := h') HO.out.2.1 x
      have r5 := HO.out.2.2.2
      generalize stepR h' M' x = r at *
      obtain ⟨⟨pc4, R4, L4, why4, ep4, home4⟩, M4, sf, st, nt, nx⟩ := r
      obtain ⟨pc', R', L', why', ep', home'⟩ := h'
      simp only at *
      have HO4 := Lib.hid (And.intro r1 (And.intro r2 (And.intro r3 (show L4.length * 4 ≤ 140737488355328 by omega))))
      clear r1 r2 r3 r4 r5 HO
      have hlo := HJ.out.lo
      have hbxn := HJ.out.X.lt
      have hbvn := HJ.out.Y.lt
      obtain ⟨⟨l1, l2, l3, l4, l5, l6, l7, l8, l9⟩, l10, l11, l12⟩ := hlo
      go_upto_region 9 with fail
      obtain ⟨T0, T1, T2⟩ := nn_facts wr (nCs false false 0 0) (nCs false false 0 0)
      have J1 := HJ.out.belowS T0
      generalize wr.heap.size = bn at *
      generalize ((wr.alloc _).alloc _) = W1 at *
      clear T0 HJ
      have hS : ∀ u, Below w.heap.size w u → u.cell? ⟨eg, eo + k, none⟩ = some (.int .u8 x) := fun u hb => (hb.cell (p := ⟨eg, eo + k, none⟩) heg).trans hcell
      have hSh := Lib.hid hS
      clear hS
      have J1d := J1.belowS (Below.refl _ _).drew
      have hTw := J1d.lo.2.2.2
      have SX := hSh.out _ J1d.B
      obtain ⟨c0, c1', c2', c3', c4', c5', c6, c7, c8, c9, c10, c11, c12⟩ := hart_cells J1.X
      have J1h := Lib.hid J1d
      have N1 := Lib.hid T1
      have N2 := Lib.hid T2
      clear J1 J1d T1 T2 hcell
      refine wp_region_held_drew (S := fun u => u.cell? ⟨eg, eo + k, none⟩ = some (.int .u8 x)) (by kernel_rfl) SX (fun hHeld => ?_)
      refine wpAnyH_take (i := 1) (v := ?vv61) rfl (by kernel_rfl) (by kernel_rfl) (by kernel_rfl) (fun _ _ _ h => h) (Or.inl ⟨by rfl, ?hy61⟩) (by assumption) ?rest61
      case hy61 =>
        intro u hSu
        skip
        go_simp
        try with_reducible rfl
      try simp only [Act.put, List.getElem_toArray, List.getElem_cons_succ, List.getElem_cons_zero, List.setIfInBounds_toArray, List.set_cons_zero, List.set_cons_succ]
      refine wpAnyH_take (i := 2) (v := ?vv62) rfl (by kernel_rfl) (by kernel_rfl) (by kernel_rfl) (fun _ _ _ h => h) (Or.inl ⟨by rfl, ?hy62⟩) (by assumption) ?rest62
      case hy62 =>
        intro u hSu
        skip
        go_simp
        try with_reducible rfl
      try simp only [Act.put, List.getElem_toArray, List.getElem_cons_succ, List.getElem_cons_zero, List.setIfInBounds_toArray, List.set_cons_zero, List.set_cons_succ]
      refine wpAnyH_take (i := 3) (v := ?vv63) rfl (by kernel_rfl) (by kernel_rfl) (by kernel_rfl) (fun _ _ _ h => h) (Or.inl ⟨by rfl, ?hy63⟩) (by assumption) ?rest63
      case hy63 =>
        intro u hSu
        skip
        go_simp
        try with_reducible rfl
      try simp only [Act.put, List.getElem_toArray, List.getElem_cons_succ, List.getElem_cons_zero, List.setIfInBounds_toArray, List.set_cons_zero, List.set_cons_succ]
      refine wpAnyH_take (i := 4) (v := ?vv64) rfl (by kernel_rfl) (by kernel_rfl) (by kernel_rfl) (fun _ _ _ h => h) (Or.inl ⟨by rfl, ?hy64⟩) (by assumption) ?rest64
      case hy64 =>
        intro u hSu
        skip
        go_simp
        try with_reducible rfl
      try simp only [Act.put, List.getElem_toArray, List.getElem_cons_succ, List.getElem_cons_zero, List.setIfInBounds_toArray, List.set_cons_zero, List.set_cons_succ]
      refine wpAnyH_take (i := 5) (v := ?vv65) rfl (by kernel_rfl) (by kernel_rfl) (by kernel_rfl) (fun _ _ _ h => h) (Or.inl ⟨by rfl, ?hy65⟩) (by assumption) ?rest65
      case hy65 =>
        intro u hSu
        skip
        go_simp
        try with_reducible rfl
      try simp only [Act.put, List.getElem_toArray, List.getElem_cons_succ, List.getElem_cons_zero, List.setIfInBounds_toArray, List.set_cons_zero, List.set_cons_succ]
      refine wpAnyH_take (i := 6) (v := ?vv66) rfl (by kernel_rfl) (by kernel_rfl) (by kernel_rfl) (fun _ _ _ h => h) (Or.inl ⟨by rfl, ?hy66⟩) (by assumption) ?rest66
      case hy66 =>
        intro u hSu
        skip
        go_simp
        try with_reducible rfl
      try simp only [Act.put, List.getElem_toArray, List.getElem_cons_succ, List.getElem_cons_zero, List.setIfInBounds_toArray, List.set_cons_zero, List.set_cons_succ]
      have hwx : IntKind.u64.wrap x = x := by rw [IntKind.wrap_u64]; omega
      rw [hwx]
      refine wpAnyH_ready (rs := [0]) (by kernel_rfl) (by simp) ?_
      refine AllReadyH.cons rfl (fun K hK => ?_) AllReadyH.nil
      go_simp
      refine hK.out _ _ ?hS67 (fun hHeld => ?rst67)
      case hS67 => exact SX
      clear hK K
      try simp only [Act.put, List.getElem_toArray, List.getElem_cons_succ, List.getElem_cons_zero, List.setIfInBounds_toArray, List.set_cons_zero, List.set_cons_succ]
      clear c0 c1' c2' c3' c4' c5' c6 c7 c8 c9 c10 c11 c12
      refine wpAnyH_ready (rs := [7]) (by kernel_rfl) (by simp) ?_
      refine AllReadyH.cons rfl (fun K hK => ?_) AllReadyH.nil
      (go_simp; go_at_call 8; (with_reducible refine (CS.out _ J1h.out).mono ?_); intro e w5 hD; have F5 := hD.low; obtain ⟨a4, n4, c4, rfl, sk, pm, hf⟩ := hD; simp only at sk pm; have J5 := Lib.hid (J1h.out.prog F5 pm); have K5 := Lib.hid (sk_base sk hTw); have N15 := (N1.out.belowS (Below.refl _ _).drew).fr F5 (by rintro (e | e | e) <;> omega); have N25 := (N2.out.belowS (Below.refl _ _).drew).fr F5 (by rintro (e | e | e) <;> omega); clear hf F5 sk pm; have SX5 := hSh.out _ J5.out.B)
      refine hK.out _ _ ?hS68 (fun hHeld => ?rst68)
      case hS68 => exact SX5
      clear hK K
      try simp only [Act.put, List.getElem_toArray, List.getElem_cons_succ, List.getElem_cons_zero, List.setIfInBounds_toArray, List.set_cons_zero, List.set_cons_succ]
      refine wpAnyH_take (i := 8) (v := ?vv69) rfl (by kernel_rfl) (by kernel_rfl) (by kernel_rfl) (fun _ _ _ h => h) (Or.inl ⟨by rfl, ?hy69⟩) (by assumption) ?rest69
      case hy69 =>
        intro u hSu
        skip
        go_simp
        try with_reducible rfl
      try simp only [Act.put, List.getElem_toArray, List.getElem_cons_succ, List.getElem_cons_zero, List.setIfInBounds_toArray, List.set_cons_zero, List.set_cons_succ]
      refine wpAnyH_take (i := 9) (v := ?vv70) rfl (by kernel_rfl) (by kernel_rfl) (by kernel_rfl) (fun _ _ _ h => h) (Or.inl ⟨by rfl, ?hy70⟩) (by assumption) ?rest70
      case hy70 =>
        intro u hSu
        skip
        go_simp
        try with_reducible rfl
      try simp only [Act.put, List.getElem_toArray, List.getElem_cons_succ, List.getElem_cons_zero, List.setIfInBounds_toArray, List.set_cons_zero, List.set_cons_succ]
      refine wpAnyH_take (i := 10) (v := ?vv71) rfl (by kernel_rfl) (by kernel_rfl) (by kernel_rfl) (fun _ _ _ h => h) (Or.inl ⟨by rfl, ?hy71⟩) (by assumption) ?rest71
      case hy71 =>
        intro u hSu
        skip
        go_simp
        try with_reducible rfl
      try simp only [Act.put, List.getElem_toArray, List.getElem_cons_succ, List.getElem_cons_zero, List.setIfInBounds_toArray, List.set_cons_zero, List.set_cons_succ]
      refine wpAnyH_ready (rs := [11]) (by kernel_rfl) (by simp) ?_
      refine AllReadyH.cons rfl (fun K hK => ?_) AllReadyH.nil
      refine ws_H rfl rfl J5.out.X rfl rfl rfl ?_
      refine hK.out _ _ ?hS72 (fun hHeld => ?rst72)
      case hS72 => exact hSh.out _ (J5.out.setX (h4 := ⟨pc4, R4, L4, why4, ep4, home4⟩) K5.out).B
      clear hK K
      try simp only [Act.put, List.getElem_toArray, List.getElem_cons_succ, List.getElem_cons_zero, List.setIfInBounds_toArray, List.set_cons_zero, List.set_cons_succ]
      have J6 := J5.out.setX (h4 := ⟨pc4, R4, L4, why4, ep4, home4⟩) K5.out
      simp only at J6
      have N16 := N15.fr (putH_fr w5 bx pc4 (R4 0) (R4 1) (R4 2) (R4 3) (R4 4) (R4 5) (R4 6) (R4 7) a4 n4 c4 why4 ep4 home4) (by omega)
      have N26 := N25.fr (putH_fr w5 bx pc4 (R4 0) (R4 1) (R4 2) (R4 3) (R4 4) (R4 5) (R4 6) (R4 7) a4 n4 c4 why4 ep4 home4) (by omega)
      generalize putH w5 bx pc4 (R4 0) (R4 1) (R4 2) (R4 3) (R4 4) (R4 5) (R4 6) (R4 7) a4 n4 c4 why4 ep4 home4 = V6 at *
      clear J5 K5 N15 N25 SX5
      refine wpAnyH_ready (rs := [12]) (by kernel_rfl) (by simp) ?_
      refine AllReadyH.cons rfl (fun K hK => ?_) AllReadyH.nil
      refine ws_N rfl rfl N16 rfl rfl rfl ?_
      refine hK.out _ _ ?hS73 (fun hHeld => ?rst73)
      case hS73 => exact hSh.out _ (J6.side N16 (by decide) (putN_fr V6 bn sf st nt nx) (by omega) (by omega) (by omega)).B
      clear hK K
      try simp only [Act.put, List.getElem_toArray, List.getElem_cons_succ, List.getElem_cons_zero, List.setIfInBounds_toArray, List.set_cons_zero, List.set_cons_succ]
      have J7 := J6.side N16 (by decide) (putN_fr V6 bn sf st nt nx) (by omega) (by omega) (by omega)
      have N17 := putN_whole N16 rfl sf st nt nx
      have N27 := N26.fr (putN_fr V6 bn sf st nt nx) (by omega)
      generalize putN V6 bn sf st nt nx = V7 at *
      clear J6 N16 N26 J1h N1 N2
      refine wpAnyH_done (by kernel_rfl) ?_ _
      go_upto_region 10 with fail
      have M17 := Lib.hid N17
      have M27 := Lib.hid N27
      have J7h := Lib.hid J7
      clear J7 N17 N27
      go_cut [] from 46 to 57 (fun wx => ∃ (a5 : Option Addr) (c5 gw5 d5 : Nat), Hid (RunJ T B0 p t g gw b2 bx bv M4 M4 gr c2 gw5 d5 ⟨pc4, R4, L4, why4, ep4, home4⟩ a4 n4 c4 ⟨pc4, R4, L4, why4, ep4, home4⟩ a5 n4 c5 w wx) ∧ Hid (Whole wx bn 41 (nCs sf st nt nx)) ∧ Hid (Whole wx (bn + 1) 44 (nCs sf st nt nx)))
      case first =>
        have J7d := Lib.hid (J7h.out.belowS (Below.refl _ _).drew)
        have SX := hSh.out _ J7d.out.B
        have hT7 := J7d.out.lo.2.2.2
        obtain ⟨c0, c1', c2', c3', c4', c5', c6, c7, c8, c9, c10, c11, c12⟩ := hart_cells J7h.out.Y
        obtain ⟨m0, m1, m2, m3, m4, m5, m6, m7, m8, m9⟩ := box_cells J7h.out.D.box
        refine wp_region_held_drew (S := fun u => u.cell? ⟨eg, eo + k, none⟩ = some (.int .u8 x)) (by kernel_rfl) SX (fun hHeld => ?_)
        refine wpAnyH_take (i := 2) (v := ?vv74) rfl (by kernel_rfl) (by kernel_rfl) (by kernel_rfl) (fun _ _ _ h => h) (Or.inl ⟨by rfl, ?hy74⟩) (by assumption) ?rest74
        case hy74 =>
          intro u hSu
          skip
          go_simp
          try with_reducible rfl
        try simp only [Act.put, List.getElem_toArray, List.getElem_cons_succ, List.getElem_cons_zero, List.setIfInBounds_toArray, List.set_cons_zero, List.set_cons_succ]
        refine wpAnyH_take (i := 3) (v := ?vv75) rfl (by kernel_rfl) (by kernel_rfl) (by kernel_rfl) (fun _ _ _ h => h) (Or.inl ⟨by rfl, ?hy75⟩) (by assumption) ?rest75
        case hy75 =>
          intro u hSu
          skip
          go_simp
          try with_reducible rfl
        try simp only [Act.put, List.getElem_toArray, List.getElem_cons_succ, List.getElem_cons_zero, List.setIfInBounds_toArray, List.set_cons_zero, List.set_cons_succ]
        refine wpAnyH_take (i := 4) (v := ?vv76) rfl (by kernel_rfl) (by kernel_rfl) (by kernel_rfl) (fun _ _ _ h => h) (Or.inl ⟨by rfl, ?hy76⟩) (by assumption) ?rest76
        case hy76 =>
          intro u hSu
          skip
          go_simp
          try with_reducible rfl
        try simp only [Act.put, List.getElem_toArray, List.getElem_cons_succ, List.getElem_cons_zero, List.setIfInBounds_toArray, List.set_cons_zero, List.set_cons_succ]
        refine wpAnyH_take (i := 5) (v := ?vv77) rfl (by kernel_rfl) (by kernel_rfl) (by kernel_rfl) (fun _ _ _ h => h) (Or.inl ⟨by rfl, ?hy77⟩) (by assumption) ?rest77
        case hy77 =>
          intro u hSu
          skip
          go_simp
          try with_reducible rfl
        try simp only [Act.put, List.getElem_toArray, List.getElem_cons_succ, List.getElem_cons_zero, List.setIfInBounds_toArray, List.set_cons_zero, List.set_cons_succ]
        refine wpAnyH_take (i := 6) (v := ?vv78) rfl (by kernel_rfl) (by kernel_rfl) (by kernel_rfl) (fun _ _ _ h => h) (Or.inl ⟨by rfl, ?hy78⟩) (by assumption) ?rest78
        case hy78 =>
          intro u hSu
          skip
          go_simp
          try with_reducible rfl
        try simp only [Act.put, List.getElem_toArray, List.getElem_cons_succ, List.getElem_cons_zero, List.setIfInBounds_toArray, List.set_cons_zero, List.set_cons_succ]
        try rw [hwx]
        refine wpAnyH_ready (rs := [0, 1]) (by kernel_rfl) (by simp) ?_
        refine AllReadyH.cons rfl (fun K hK => ?_) (AllReadyH.cons rfl (fun K hK => ?_) AllReadyH.nil)
        · go_simp
          refine hK.out _ _ ?hS79 (fun hHeld => ?rst79)
          case hS79 => exact SX
          clear hK K
          try simp only [Act.put, List.getElem_toArray, List.getElem_cons_succ, List.getElem_cons_zero, List.setIfInBounds_toArray, List.set_cons_zero, List.set_cons_succ]
          refine wpAnyH_ready (rs := [1]) (by kernel_rfl) (by simp) ?_
          refine AllReadyH.cons rfl (fun K hK => ?_) AllReadyH.nil
          go_simp
          refine hK.out _ _ ?hS80 (fun hHeld => ?rst80)
          case hS80 => exact SX
          clear hK K
          try simp only [Act.put, List.getElem_toArray, List.getElem_cons_succ, List.getElem_cons_zero, List.setIfInBounds_toArray, List.set_cons_zero, List.set_cons_succ]
          clear c0 c1' c2' c3' c4' c5' c6 c7 c8 c9 c10 c11 c12 m0 m1 m2 m3 m4 m5 m6 m7 m8 m9
          refine wpAnyH_ready (rs := [7]) (by kernel_rfl) (by simp) ?_
          refine AllReadyH.cons rfl (fun K hK => ?_) AllReadyH.nil
          (go_simp; go_at_call 9; (with_reducible refine (CR.out _ _ _ _ _ _ J7d.out).mono ?_); rintro e w8 ⟨a5, n5, c5, gw5, d5, rfl, sk, rm, hgw5, hb⟩; simp only at sk rm; have J8 := J7d.out.belowS hb; have hn45 : n5 = n4 := (by have h1 := sk.len; have h2 := J8.kx.len; simp only at h2; omega); subst hn45; have K8 := sk_base sk hT7; have N18 := (M17.out.belowS (Below.refl _ _).drew).belowS hb; have N28 := (M27.out.belowS (Below.refl _ _).drew).belowS hb; have hg8 : gw5 = gwr ∨ T ≤ gw5 := hgw5.imp id (fun h => Nat.le_trans hT7 h); clear sk hgw5 hb)
          refine hK.out _ _ ?hS81 (fun hHeld => ?rst81)
          case hS81 => exact hSh.out _ J8.B
          clear hK K
          try simp only [Act.put, List.getElem_toArray, List.getElem_cons_succ, List.getElem_cons_zero, List.setIfInBounds_toArray, List.set_cons_zero, List.set_cons_succ]
          refine wpAnyH_take (i := 8) (v := ?vv82) rfl (by kernel_rfl) (by kernel_rfl) (by kernel_rfl) (fun _ _ _ h => h) (Or.inl ⟨by rfl, ?hy82⟩) (by assumption) ?rest82
          case hy82 =>
            intro u hSu
            skip
            go_simp
            try with_reducible rfl
          try simp only [Act.put, List.getElem_toArray, List.getElem_cons_succ, List.getElem_cons_zero, List.setIfInBounds_toArray, List.set_cons_zero, List.set_cons_succ]
          refine wpAnyH_take (i := 9) (v := ?vv83) rfl (by kernel_rfl) (by kernel_rfl) (by kernel_rfl) (fun _ _ _ h => h) (Or.inl ⟨by rfl, ?hy83⟩) (by assumption) ?rest83
          case hy83 =>
            intro u hSu
            skip
            go_simp
            try with_reducible rfl
          try simp only [Act.put, List.getElem_toArray, List.getElem_cons_succ, List.getElem_cons_zero, List.setIfInBounds_toArray, List.set_cons_zero, List.set_cons_succ]
          refine wpAnyH_take (i := 10) (v := ?vv84) rfl (by kernel_rfl) (by kernel_rfl) (by kernel_rfl) (fun _ _ _ h => h) (Or.inl ⟨by rfl, ?hy84⟩) (by assumption) ?rest84
          case hy84 =>
            intro u hSu
            skip
            go_simp
            try with_reducible rfl
          try simp only [Act.put, List.getElem_toArray, List.getElem_cons_succ, List.getElem_cons_zero, List.setIfInBounds_toArray, List.set_cons_zero, List.set_cons_succ]
          refine wpAnyH_take (i := 11) (v := ?vv85) rfl (by kernel_rfl) (by kernel_rfl) (by kernel_rfl) (fun _ _ _ h => h) (Or.inl ⟨by rfl, ?hy85⟩) (by assumption) ?rest85
          case hy85 =>
            intro u hSu
            skip
            go_simp
            try with_reducible rfl
          try simp only [Act.put, List.getElem_toArray, List.getElem_cons_succ, List.getElem_cons_zero, List.setIfInBounds_toArray, List.set_cons_zero, List.set_cons_succ]
          refine wpAnyH_ready (rs := [12]) (by kernel_rfl) (by simp) ?_
          refine AllReadyH.cons rfl (fun K hK => ?_) AllReadyH.nil
          refine ws_H rfl rfl J8.Y rfl rfl rfl ?_
          refine hK.out _ _ ?hS86 (fun hHeld => ?rst86)
          case hS86 => exact hSh.out _ (J8.setY (h4 := ⟨pc4, R4, L4, why4, ep4, home4⟩) K8).B
          clear hK K
          try simp only [Act.put, List.getElem_toArray, List.getElem_cons_succ, List.getElem_cons_zero, List.setIfInBounds_toArray, List.set_cons_zero, List.set_cons_succ]
          have J9 := J8.setY (h4 := ⟨pc4, R4, L4, why4, ep4, home4⟩) K8
          simp only at J9
          have rm9 := rm.fr (putH_fr w8 bv pc4 (R4 0) (R4 1) (R4 2) (R4 3) (R4 4) (R4 5) (R4 6) (R4 7) a5 n5 c5 why4 ep4 home4) (show ¬ gr = bv by omega) (fun e => rm.wr.ne_ J8.Y (by decide) e.symm)
          replace N18 := N18.fr (putH_fr w8 bv pc4 (R4 0) (R4 1) (R4 2) (R4 3) (R4 4) (R4 5) (R4 6) (R4 7) a5 n5 c5 why4 ep4 home4) (by omega)
          replace N28 := N28.fr (putH_fr w8 bv pc4 (R4 0) (R4 1) (R4 2) (R4 3) (R4 4) (R4 5) (R4 6) (R4 7) a5 n5 c5 why4 ep4 home4) (by omega)
          generalize putH w8 bv pc4 (R4 0) (R4 1) (R4 2) (R4 3) (R4 4) (R4 5) (R4 6) (R4 7) a5 n5 c5 why4 ep4 home4 = V9 at *
          clear J8 rm K8
          refine wpAnyH_ready (rs := [13]) (by kernel_rfl) (by simp) ?_
          refine AllReadyH.cons rfl (fun K hK => ?_) AllReadyH.nil
          refine ws_B (G := M4.gt) (gr := gr) (N := M4.pg.length) (C := c2) (gw := gw5) (m := M4.ws.length) (d := d5) rfl rfl J9.D.box rfl rfl rfl ?_
          refine hK.out _ _ ?hS87 (fun hHeld => ?rst87)
          case hS87 => exact hSh.out _ (J9.setM rm9 HO4.out.2.1 hg8).B
          clear hK K
          try simp only [Act.put, List.getElem_toArray, List.getElem_cons_succ, List.getElem_cons_zero, List.setIfInBounds_toArray, List.set_cons_zero, List.set_cons_succ]
          have J10 := J9.setM rm9 HO4.out.2.1 hg8
          replace N18 := N18.fr (putB_fr V9 b2 M4.gt gr M4.pg.length c2 gw5 M4.ws.length d5) (by omega)
          replace N28 := N28.fr (putB_fr V9 b2 M4.gt gr M4.pg.length c2 gw5 M4.ws.length d5) (by omega)
          generalize putB V9 b2 M4.gt gr M4.pg.length c2 gw5 M4.ws.length d5 = V10 at *
          clear J9 rm9
          refine wpAnyH_ready (rs := [14]) (by kernel_rfl) (by simp) ?_
          refine AllReadyH.cons rfl (fun K hK => ?_) AllReadyH.nil
          refine ws_M rfl rfl N28 rfl rfl rfl ?_
          refine hK.out _ _ ?hS88 (fun hHeld => ?rst88)
          case hS88 => exact hSh.out _ (J10.side N28 (by decide) (putN_fr V10 (bn + 1) sf st nt nx) (by omega) (by omega) (by omega)).B
          clear hK K
          try simp only [Act.put, List.getElem_toArray, List.getElem_cons_succ, List.getElem_cons_zero, List.setIfInBounds_toArray, List.set_cons_zero, List.set_cons_succ]
          have J11 := J10.side N28 (by decide) (putN_fr V10 (bn + 1) sf st nt nx) (by omega) (by omega) (by omega)
          have X18 := N18.fr (putN_fr V10 (bn + 1) sf st nt nx) (by omega)
          have X28 := putN_whole N28 rfl sf st nt nx
          generalize putN V10 (bn + 1) sf st nt nx = V11 at *
          refine wpAnyH_done (by kernel_rfl) ?_ _
          go_wp2_with fail
          go_meet
          exact ⟨a5, c5, gw5, d5, Lib.hid J11, Lib.hid X18, Lib.hid X28⟩
        · go_simp
          refine hK.out _ _ ?hS89 (fun hHeld => ?rst89)
          case hS89 => exact SX
          clear hK K
          try simp only [Act.put, List.getElem_toArray, List.getElem_cons_succ, List.getElem_cons_zero, List.setIfInBounds_toArray, List.set_cons_zero, List.set_cons_succ]
          refine wpAnyH_ready (rs := [0]) (by kernel_rfl) (by simp) ?_
          refine AllReadyH.cons rfl (fun K hK => ?_) AllReadyH.nil
          go_simp
          refine hK.out _ _ ?hS90 (fun hHeld => ?rst90)
          case hS90 => exact SX
          clear hK K
          try simp only [Act.put, List.getElem_toArray, List.getElem_cons_succ, List.getElem_cons_zero, List.setIfInBounds_toArray, List.set_cons_zero, List.set_cons_succ]
          clear c0 c1' c2' c3' c4' c5' c6 c7 c8 c9 c10 c11 c12 m0 m1 m2 m3 m4 m5 m6 m7 m8 m9
          refine wpAnyH_ready (rs := [7]) (by kernel_rfl) (by simp) ?_
          refine AllReadyH.cons rfl (fun K hK => ?_) AllReadyH.nil
          (go_simp; go_at_call 9; (with_reducible refine (CR.out _ _ _ _ _ _ J7d.out).mono ?_); rintro e w8 ⟨a5, n5, c5, gw5, d5, rfl, sk, rm, hgw5, hb⟩; simp only at sk rm; have J8 := J7d.out.belowS hb; have hn45 : n5 = n4 := (by have h1 := sk.len; have h2 := J8.kx.len; simp only at h2; omega); subst hn45; have K8 := sk_base sk hT7; have N18 := (M17.out.belowS (Below.refl _ _).drew).belowS hb; have N28 := (M27.out.belowS (Below.refl _ _).drew).belowS hb; have hg8 : gw5 = gwr ∨ T ≤ gw5 := hgw5.imp id (fun h => Nat.le_trans hT7 h); clear sk hgw5 hb)
          refine hK.out _ _ ?hS91 (fun hHeld => ?rst91)
          case hS91 => exact hSh.out _ J8.B
          clear hK K
          try simp only [Act.put, List.getElem_toArray, List.getElem_cons_succ, List.getElem_cons_zero, List.setIfInBounds_toArray, List.set_cons_zero, List.set_cons_succ]
          refine wpAnyH_take (i := 8) (v := ?vv92) rfl (by kernel_rfl) (by kernel_rfl) (by kernel_rfl) (fun _ _ _ h => h) (Or.inl ⟨by rfl, ?hy92⟩) (by assumption) ?rest92
          case hy92 =>
            intro u hSu
            skip
            go_simp
            try with_reducible rfl
          try simp only [Act.put, List.getElem_toArray, List.getElem_cons_succ, List.getElem_cons_zero, List.setIfInBounds_toArray, List.set_cons_zero, List.set_cons_succ]
          refine wpAnyH_take (i := 9) (v := ?vv93) rfl (by kernel_rfl) (by kernel_rfl) (by kernel_rfl) (fun _ _ _ h => h) (Or.inl ⟨by rfl, ?hy93⟩) (by assumption) ?rest93
          case hy93 =>
            intro u hSu
            skip
            go_simp
            try with_reducible rfl
          try simp only [Act.put, List.getElem_toArray, List.getElem_cons_succ, List.getElem_cons_zero, List.setIfInBounds_toArray, List.set_cons_zero, List.set_cons_succ]
          refine wpAnyH_take (i := 10) (v := ?vv94) rfl (by kernel_rfl) (by kernel_rfl) (by kernel_rfl) (fun _ _ _ h => h) (Or.inl ⟨by rfl, ?hy94⟩) (by assumption) ?rest94
          case hy94 =>
            intro u hSu
            skip
            go_simp
            try with_reducible rfl
          try simp only [Act.put, List.getElem_toArray, List.getElem_cons_succ, List.getElem_cons_zero, List.setIfInBounds_toArray, List.set_cons_zero, List.set_cons_succ]
          refine wpAnyH_take (i := 11) (v := ?vv95) rfl (by kernel_rfl) (by kernel_rfl) (by kernel_rfl) (fun _ _ _ h => h) (Or.inl ⟨by rfl, ?hy95⟩) (by assumption) ?rest95
          case hy95 =>
            intro u hSu
            skip
            go_simp
            try with_reducible rfl
          try simp only [Act.put, List.getElem_toArray, List.getElem_cons_succ, List.getElem_cons_zero, List.setIfInBounds_toArray, List.set_cons_zero, List.set_cons_succ]
          refine wpAnyH_ready (rs := [12]) (by kernel_rfl) (by simp) ?_
          refine AllReadyH.cons rfl (fun K hK => ?_) AllReadyH.nil
          refine ws_H rfl rfl J8.Y rfl rfl rfl ?_
          refine hK.out _ _ ?hS96 (fun hHeld => ?rst96)
          case hS96 => exact hSh.out _ (J8.setY (h4 := ⟨pc4, R4, L4, why4, ep4, home4⟩) K8).B
          clear hK K
          try simp only [Act.put, List.getElem_toArray, List.getElem_cons_succ, List.getElem_cons_zero, List.setIfInBounds_toArray, List.set_cons_zero, List.set_cons_succ]
          have J9 := J8.setY (h4 := ⟨pc4, R4, L4, why4, ep4, home4⟩) K8
          simp only at J9
          have rm9 := rm.fr (putH_fr w8 bv pc4 (R4 0) (R4 1) (R4 2) (R4 3) (R4 4) (R4 5) (R4 6) (R4 7) a5 n5 c5 why4 ep4 home4) (show ¬ gr = bv by omega) (fun e => rm.wr.ne_ J8.Y (by decide) e.symm)
          replace N18 := N18.fr (putH_fr w8 bv pc4 (R4 0) (R4 1) (R4 2) (R4 3) (R4 4) (R4 5) (R4 6) (R4 7) a5 n5 c5 why4 ep4 home4) (by omega)
          replace N28 := N28.fr (putH_fr w8 bv pc4 (R4 0) (R4 1) (R4 2) (R4 3) (R4 4) (R4 5) (R4 6) (R4 7) a5 n5 c5 why4 ep4 home4) (by omega)
          generalize putH w8 bv pc4 (R4 0) (R4 1) (R4 2) (R4 3) (R4 4) (R4 5) (R4 6) (R4 7) a5 n5 c5 why4 ep4 home4 = V9 at *
          clear J8 rm K8
          refine wpAnyH_ready (rs := [13]) (by kernel_rfl) (by simp) ?_
          refine AllReadyH.cons rfl (fun K hK => ?_) AllReadyH.nil
          refine ws_B (G := M4.gt) (gr := gr) (N := M4.pg.length) (C := c2) (gw := gw5) (m := M4.ws.length) (d := d5) rfl rfl J9.D.box rfl rfl rfl ?_
          refine hK.out _ _ ?hS97 (fun hHeld => ?rst97)
          case hS97 => exact hSh.out _ (J9.setM rm9 HO4.out.2.1 hg8).B
          clear hK K
          try simp only [Act.put, List.getElem_toArray, List.getElem_cons_succ, List.getElem_cons_zero, List.setIfInBounds_toArray, List.set_cons_zero, List.set_cons_succ]
          have J10 := J9.setM rm9 HO4.out.2.1 hg8
          replace N18 := N18.fr (putB_fr V9 b2 M4.gt gr M4.pg.length c2 gw5 M4.ws.length d5) (by omega)
          replace N28 := N28.fr (putB_fr V9 b2 M4.gt gr M4.pg.length c2 gw5 M4.ws.length d5) (by omega)
          generalize putB V9 b2 M4.gt gr M4.pg.length c2 gw5 M4.ws.length d5 = V10 at *
          clear J9 rm9
          refine wpAnyH_ready (rs := [14]) (by kernel_rfl) (by simp) ?_
          refine AllReadyH.cons rfl (fun K hK => ?_) AllReadyH.nil
          refine ws_M rfl rfl N28 rfl rfl rfl ?_
          refine hK.out _ _ ?hS98 (fun hHeld => ?rst98)
          case hS98 => exact hSh.out _ (J10.side N28 (by decide) (putN_fr V10 (bn + 1) sf st nt nx) (by omega) (by omega) (by omega)).B
          clear hK K
          try simp only [Act.put, List.getElem_toArray, List.getElem_cons_succ, List.getElem_cons_zero, List.setIfInBounds_toArray, List.set_cons_zero, List.set_cons_succ]
          have J11 := J10.side N28 (by decide) (putN_fr V10 (bn + 1) sf st nt nx) (by omega) (by omega) (by omega)
          have X18 := N18.fr (putN_fr V10 (bn + 1) sf st nt nx) (by omega)
          have X28 := putN_whole N28 rfl sf st nt nx
          generalize putN V10 (bn + 1) sf st nt nx = V11 at *
          refine wpAnyH_done (by kernel_rfl) ?_ _
          go_wp2_with fail
          go_meet
          exact ⟨a5, c5, gw5, d5, Lib.hid J11, Lib.hid X18, Lib.hid X28⟩
      obtain ⟨a5, c5, gw5, d5, J11, X18, X28⟩ := hcut
      have CE := Lib.hid (refSame_any pc4 R4 why4 ep4 home4 pc4 R4 why4 ep4 home4 J11.out.kx.reads J11.out.ky.reads)
      rw [one_refl] at CE
      obtain ⟨c0, c1', c2', c3', c4', c5', c6, c7, c8, c9, c10, c11, c12⟩ := hart_cells J11.out.X
      obtain ⟨y0, y1, y2, y3, y4, y5, y6, y7, y8, y9, y10, y11, y12⟩ := hart_cells J11.out.Y
      have q1 := J11.out.X.lt
      have q2 := J11.out.Y.lt
      clear J7h M17 M27 CS CR hSh SX hTw
      go_wp2_with (go_at_call 10; (with_reducible refine CE.out.mono ?_); rintro e w12 ⟨rfl, hb⟩; have J12 := Lib.hid (J11.out.belowS hb); have z1 := X18.out.belowS hb; have z2 := X28.out.belowS hb; have p1 := z1.lt; have p2 := z2.lt; obtain ⟨f0, f1, f2, f3⟩ := note_cells z1; obtain ⟨g0, g1, g2, g3⟩ := note_cells z2; clear hb z1 z2)
      go_roundw
      case rel => exact ⟨k + 1, ⟨pc4, R4, L4, why4, ep4, home4⟩, M4, a4, n4, c4, a5, c5, gw5, d5, by omega, by go_num, HO4, J12⟩
      case measure => simp [intOf]; omega
    · obtain rfl : k = es.length := by omega
      have SA := Lib.hid (same_any HJ.out.D.pm HJ.out.D.rm)
      obtain ⟨m0, m1, m2, m3, m4, m5, m6, m7, m8, m9⟩ := box_cells HJ.out.D.box
      have q1 := HJ.out.D.box.lt
      have HB := Lib.hid HJ.out.B
      clear HJ HO
      go_wp2_with (first | (go_at_call 11; (with_reducible refine SA.out.mono ?_); rintro e w13 ⟨rfl, hb⟩; have H13 := Lib.hid (HB.out.trans (hb.mono HB.out.size)); clear hb) | (go_at_call 12; (with_reducible refine (AW.out _).mono ?_); rintro e w14 ⟨rfl, hb⟩; have H14 := Lib.hid (H13.out.trans (hb.mono H13.out.size)); clear hb))
      go_ret
      exact ⟨rfl, H14.out⟩
end Go.Proofs.YtihcellcdkhadaaGreat.WK
