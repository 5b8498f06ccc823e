/-
  The program's naming, Word and isLong. Nothing here is a statement of the seed.
-/
import Derived.Test.YtajidaicojekdaaLinkA
import Derived.Test.YtajidaicojekdaaLayP
import Derived.BigQuiet
import Derived.Deep.QuietTactic
set_option linter.unusedSimpArgs false
set_option linter.unusedVariables false
namespace Go.Proofs.Ytajidaicojekdaa.KP
open Go.RowKit WM NR OM OR VM YM YR RM RF KM KF
set_option maxHeartbeats 4000000
set_option maxRecDepth 10000
def isD (k : Nat) : Bool := decide (k = 4 ∨ k = 5 ∨ k = 6)
/-- is a kind about code (about data)? -/
def abB (k : Nat) (cd : Bool) : Bool := decide (k ≤ 7) && (isD k != cd)
theorem isAbout_any (k : Nat) (hk : k < 256) (cd : Bool) (w : World) :
    Calls Try.prog 71 #[.int .u8 (k : Int), .bool cd] w fun e w' => e = .returned (.bool (abB k cd)) ∧ w = w' := by
  obtain ⟨K, hK⟩ : ∃ K : Int, (k : Int) = K := ⟨_, rfl⟩
  rw [hK]
  have h1 : 0 ≤ K ∧ K ≤ 255 := by omega
  obtain ⟨h2, h3⟩ := h1
  have hI := Lib.hid hK
  clear hK
  go_enter Try.func71, Try.ntmps71
  go_wp2
  all_goals go_ret
  all_goals refine ⟨ret_bool ?_, rfl⟩
  all_goals try simp only [beq_iff_eq, beq_eq_false_iff_ne, ne_eq] at *
  all_goals have hI := hI.out
  all_goals unfold abB isD
  all_goals cases cd
  all_goals rw [Bool.eq_iff_iff]
  all_goals simp
  all_goals omega
/-- what the closure asks of a relocation -/
def cloB (cd : Bool) (a : Int) (k t : Nat) : Bool := decide ((t : Int) = a) && abB k cd
theorem cloB_hit {m : Md} {i : Int} {k rk rt rw : Nat} {cd : Bool} {a : Int} (hr : rl m k = ⟨rk, rt, rw⟩) (hs : spV m.code.length m.data.length i = (cd, a, true)) : cloB cd a rk rt = hitB m i k := by
  rw [nm_of hr hs]
  unfold cloB abB
  by_cases h7 : rk ≤ 7
  · have e : isD rk = !VM.inC rk := by
      unfold isD VM.inC
      rw [Bool.eq_iff_iff]
      simp
      omega
    rw [e]
    cases VM.inC rk <;> cases cd <;> simp [h7]
  · rw [decide_eq_false h7]
    simp
theorem clo_any {w : World} {q1 q2 : Nat} {cd : Bool} {a : Int} (k t x : Nat) (hk : k < 256) (ht : t < 65536) (h1 : w.cell? ⟨q1, 0, none⟩ = some (.int .i64 a)) (h2 : w.cell? ⟨q2, 0, none⟩ = some (.bool cd)) :
    Calls Try.prog 70 #[.agg #[.int .u8 (k : Int), .int .u16 (t : Int), .int .u16 (x : Int)], .pointer (some ⟨q1, 0, none⟩), .pointer (some ⟨q2, 0, none⟩)] w fun e w' => e = .returned (.bool (cloB cd a k t)) ∧ Below w.heap.size w w' := by
  have C := Lib.hid (fun u => isAbout_any k hk cd u)
  have HB := Lib.hid (below_new w (.cells #[.int .u8 (k : Int), .int .u16 (t : Int), .int .u16 (x : Int)] 76))
  have HZ := Lib.hid (Whole.new w 76 #[.int .u8 (k : Int), .int .u16 (t : Int), .int .u16 (x : Int)])
  have hwr : IntKind.i64.wrap (t : Int) = (t : Int) := by rw [IntKind.wrap_i64]; omega
  have y1 := (HB.out.cell (p := ⟨q1, 0, none⟩) (World.block_lt_of_cell? w _ h1)).trans h1
  have y2 := (HB.out.cell (p := ⟨q2, 0, none⟩) (World.block_lt_of_cell? w _ h2)).trans h2
  clear h1 h2
  unfold cloB
  generalize abB k cd = D at *
  obtain ⟨B, hB⟩ : ∃ B, (decide ((t : Int) = a) && D) = B := ⟨_, rfl⟩
  rw [hB]
  have HFIN := Lib.hid (fun (b : Bool) (h : (decide ((t : Int) = a) && D) = b) => hB.symm.trans h)
  clear hB
  go_enter Try.func70, Try.ntmps70
  go_upto_region 1 with fail
  generalize w.alloc (.cells #[.int .u8 (k : Int), .int .u16 (t : Int), .int .u16 (x : Int)] 76) = W at *
  obtain ⟨d0, d1, d2⟩ := rel_cells HZ.out
  have d3 := HZ.out.lt
  by_cases h1 : (t : Int) = a
  · subst h1
    have := HFIN.out D (by simp)
    subst this
    clear HFIN
    go_wp2_with (go_at_call 71; (with_reducible refine (C.out _).mono ?_); rintro e w1 ⟨rfl, rfl⟩)
    go_ret
    exact ⟨rfl, HB.out⟩
  · have h1' : ((t : Int) == a) = false := by simpa using h1
    have := HFIN.out false (by simp [h1])
    subst this
    clear HFIN
    go_wp2_with fail
    go_ret
    exact ⟨rfl, HB.out⟩
theorem idx_any {w : World} {a : Option Addr} {n c : Nat} {l : List Rl} {q1 q2 : Addr} (h1 : ReadsR (· < w.heap.size) w (.slice a n c) l) {p : Nat → Bool} (hp0 : ∀ k, k < n → ∀ u : World, Below w.heap.size w u → Calls Try.prog 70 #[.agg #[.int .u8 ((l.getD k ⟨0, 0, 0⟩).kind : Int), .int .u16 ((l.getD k ⟨0, 0, 0⟩).at_ : Int), .int .u16 ((l.getD k ⟨0, 0, 0⟩).wh : Int)], .pointer (some q1), .pointer (some q2)] u fun e w' => e = .returned (.bool (p k)) ∧ Below u.heap.size u w') :
    Calls Try.prog 69 #[.slice a n c, .func (.func 70) #[] #[.pointer (some q1), .pointer (some q2)]] w fun e w' => e = .returned (.int .i64 (ff p n)) ∧ Below w.heap.size w w' := by
  obtain ⟨n1, m1, m2⟩ := h1.len
  unfold maxLen at m2
  have hn : (n : Int) ≤ 9223372036854775807 := by omega
  have HA := Lib.hid h1
  have HL := Lib.hid n1
  have HC := Lib.hid hp0
  have m1' : (n : Int) ≤ c := by omega
  clear h1 n1 m1 m2 hp0
  obtain ⟨E, hE⟩ : ∃ E, E = ff p n := ⟨_, rfl⟩
  rw [← hE]
  have HE := Lib.hid hE
  clear hE
  go_enter Try.func69, Try.ntmps69
  go_wp2_with fail
  go_loopw [8] (fun i wr => ∃ k : Nat, k ≤ n ∧ i = .int .i64 (k : Int) ∧ Hid (∀ j, j < k → p j = false) ∧ Below w.heap.size w wr) (fun i _ => n - (intOf i).toNat)
  case atStart => exact ⟨0, by omega, rfl, Lib.hid (fun j hj => by omega), Below.refl _ _⟩
  case round =>
    obtain ⟨k, hk, rfl, hp, hbl⟩ := hrel
    by_cases hlt : k < n
    · have hlt' : (k : Int) < n := by omega
      obtain ⟨g, off, rfl, qq, c0, c1, c2⟩ := HA.out.at hbl hlt
      have k1 : k < l.length := by rw [HL.out]; exact hlt
      have CL := Lib.hid (HC.out k hlt wr hbl)
      obtain ⟨b, hb⟩ : ∃ b, b = p k := ⟨_, rfl⟩
      rw [← hb] at CL
      cases b
      case true =>
        have hh := Lib.hid (HE.out.trans (ff_yes hlt hb.symm hp.out))
        clear hb hp k1
        generalize ((l.getD k ⟨0, 0, 0⟩).kind : Int) = y0 at *
        generalize ((l.getD k ⟨0, 0, 0⟩).at_ : Int) = y1 at *
        generalize ((l.getD k ⟨0, 0, 0⟩).wh : Int) = y2 at *
        go_wp2_with (go_at_call 70; (with_reducible refine CL.out.mono ?_); rintro e w1 ⟨rfl, hb1⟩)
        go_ret
        exact ⟨ret_int hh.out.symm, below_of hbl hb1⟩
      case false =>
        have hp2 := Lib.hid (fun j (hj : j < k + 1) => if h : j < k then hp.out j h else by rw [show j = k by omega]; exact hb.symm)
        clear hb hp k1
        generalize ((l.getD k ⟨0, 0, 0⟩).kind : Int) = y0 at *
        generalize ((l.getD k ⟨0, 0, 0⟩).at_ : Int) = y1 at *
        generalize ((l.getD k ⟨0, 0, 0⟩).wh : Int) = y2 at *
        go_wp2_with (go_at_call 70; (with_reducible refine CL.out.mono ?_); rintro e w1 ⟨rfl, hb1⟩)
        go_roundw
        case rel => exact ⟨k + 1, by omega, by go_num, hp2, below_of hbl hb1⟩
        case measure => simp [intOf]; omega
    · obtain rfl : k = n := by omega
      have hh := Lib.hid (HE.out.trans (ff_no hp.out))
      clear hp
      go_wp2_with fail
      go_ret
      exact ⟨ret_int hh.out.symm, hbl⟩
/-- the first relocation that names a word, and whether there is one -/
def nam (m : Md) (i : Int) : Rl × Bool := if 0 ≤ hit m i then (rl m (hit m i).toNat, true) else (⟨0, 0, 0⟩, false)
theorem nam_no {m : Md} {i : Int} (h : hit m i = -1) : nam m i = (⟨0, 0, 0⟩, false) := by
  unfold nam
  rw [h]
  rfl
theorem nam_yes {m : Md} {i : Int} {k : Nat} (h : hit m i = (k : Nat)) : nam m i = (rl m k, true) := by
  unfold nam
  rw [h, if_pos (by omega)]
  rfl
section
variable {w : World} {ea : Option Addr} {en ec : Nat} {ia : Option Addr} {im ic : Nat} {ca : Option Addr} {cn cc : Nat} {da : Option Addr} {dn dc : Nat} {ra : Option Addr} {rn rc : Nat} {m : Md}
theorem naming_any (h : RdM (· < w.heap.size) w ea en ec ia im ic ca cn cc da dn dc ra rn rc m) (hf : FineM m) (hl : cn * 4 ≤ 140737488355328 ∧ dn * 4 ≤ 140737488355328) (i : Int) (hi : -9223372036854775808 ≤ i ∧ i ≤ 9223372036854775807) :
    Calls Try.prog 43 #[mV (bs m.name) ea en ec ia im ic ca cn cc da dn dc ra rn rc, .int .i64 i] w fun e w' => e = .returned (.tuple #[.agg #[.int .u8 ((nam m i).1.kind : Int), .int .u16 ((nam m i).1.at_ : Int), .int .u16 ((nam m i).1.wh : Int)], .bool (nam m i).2]) ∧ Below w.heap.size w w' := by
  obtain ⟨l1, l2, l3, l4, l5⟩ := h.lens
  have J0 := Lib.hid (LJ.new w (mCs (bs m.name) ea en ec ia im ic ca cn cc da dn dc ra rn rc) #[.int .u8 0, .int .u16 0, .int .u16 0] 76)
  have C2 := Lib.hid (fun (u : World) (hb : Below w.heap.size w u) => spot_any (h.go hb hb.size) hl i hi)
  have HR := Lib.hid h.rl
  have HF := Lib.hid (fun (k : Nat) (hk : k < rn) => hf.rels _ (mem_getD (l := m.rels) (d := ⟨0, 0, 0⟩) (i := k) (by omega)))
  have hmax := h.rl.len.2.2
  have hrc : (rn : Int) ≤ rc := by have := h.rl.len.2.1; omega
  have hrn : (rn : Int) ≤ 9223372036854775807 := by unfold maxLen at hmax; omega
  obtain ⟨⟨cd, a, ok⟩, hs⟩ : ∃ q, spV cn dn i = q := ⟨_, rfl⟩
  rw [hs] at C2
  have HS := Lib.hid (show spV m.code.length m.data.length i = (cd, a, ok) by rw [l3, l4]; exact hs)
  have HL := Lib.hid l5
  have HIT := Lib.hid (show hit m i = ff (hitB m i) rn by unfold hit; rw [l5])
  clear hs h hf hl l1 l2 l3 l4 l5 hi
  simp only at C2
  generalize bs m.name = x at *
  clear hmax
  cases ok with
  | false =>
    rw [nam_no (nm_not HS.out)]
    clear HIT HS HR HF
    simp only
    go_enter Try.func43, Try.ntmps43
    go_upto_region 1 with fail
    generalize (w.alloc (.cells (mCs x ea en ec ia im ic ca cn cc da dn dc ra rn rc) 45)).alloc (.cells #[.int .u8 0, .int .u16 0, .int .u16 0] 76) = W at *
    have JJ := J0
    clear J0
    obtain ⟨c0, c1, c2, c3, c4, c5⟩ := mod_cells JJ.out.X
    have c6 := JJ.out.X.lt
    go_upto_region 2 with (go_at_call 27; (with_reducible refine (C2.out _ JJ.out.B).mono ?_); rintro e w2 ⟨rfl, hb⟩; have JJ := Lib.hid (JJ.out.belowS hb); clear hb)
    have J5 := Lib.hid ((JJ.out.alloc (.cells #[.bool cd] 4)).alloc (.cells #[.int .i64 a] 3))
    generalize (w2.alloc (.cells #[.bool cd] 4)).alloc (.cells #[.int .i64 a] 3) = W5 at *
    clear c0 c1 c2 c3 c4 c5 c6 C2 JJ
    have d3 := J5.out.Y.lt
    have d4 := J5.out.Y.frozen 0
    have d5 := J5.out.Y.frozen 1
    have d6 := J5.out.Y.frozen 2
    obtain ⟨d0, d1, d2⟩ := rel_cells J5.out.Y
    go_wp2_with fail
    obtain ⟨z0, z1, z2⟩ := rel_cells (((J5.out.Y.set_ 0 (.int .u8 0)).set_ 1 (.int .u16 0)).set_ 2 (.int .u16 0))
    exact bodyPost_ret (v := .tuple #[.agg #[.int .u8 0, .int .u16 0, .int .u16 0], .bool false]) (by simp [results, Try.results43, go_sem, z0, z1, z2]) rfl ⟨rfl, ((J5.out.B.setCell (by simp) _).setCell (by simp) _).setCell (by simp) _⟩
  | true =>
    have HIX : Hid (∀ (u : World) (q1 q2 : Nat), Below w.heap.size w u → (∀ u', Below u.heap.size u u' → u'.cell? ⟨q1, 0, none⟩ = some (.int .i64 a) ∧ u'.cell? ⟨q2, 0, none⟩ = some (.bool cd)) → Calls Try.prog 69 #[.slice ra rn rc, .func (.func 70) #[] #[.pointer (some ⟨q1, 0, none⟩), .pointer (some ⟨q2, 0, none⟩)]] u fun e w' => e = .returned (.int .i64 (hit m i)) ∧ Below u.heap.size u w') := Lib.hid (fun u q1 q2 hb hq => by
      rw [HIT.out]
      refine idx_any (p := hitB m i) ((HR.out.below hb).mono fun g hg => Nat.lt_of_lt_of_le hg hb.size) fun k hk u' hu' => ?_
      obtain ⟨h1, h2⟩ := hq u' hu'
      have hF := HF.out k hk
      obtain ⟨⟨rk, rt, rw2⟩, hr⟩ : ∃ r, rl m k = r := ⟨_, rfl⟩
      change m.rels.getD k ⟨0, 0, 0⟩ = _ at hr
      rw [hr] at hF ⊢
      have := clo_any (w := u') rk rt rw2 hF.1 hF.2.1 h1 h2
      rwa [cloB_hit (m := m) (i := i) (k := k) hr HS.out] at this)
    clear HIT HS
    have HN := Lib.hid (fun h => nam_no (m := m) (i := i) h)
    have HY := Lib.hid (fun k h => nam_yes (m := m) (i := i) (k := k) h)
    obtain ⟨NM, hNM⟩ : ∃ q, nam m i = q := ⟨_, rfl⟩
    rw [hNM] at HN HY ⊢
    clear hNM
    obtain ⟨hv, hhv⟩ : ∃ q, hit m i = q := ⟨_, rfl⟩
    rw [hhv] at HIX
    have HHV := Lib.hid hhv
    clear hhv
    go_enter Try.func43, Try.ntmps43
    go_upto_region 1 with fail
    generalize (w.alloc (.cells (mCs x ea en ec ia im ic ca cn cc da dn dc ra rn rc) 45)).alloc (.cells #[.int .u8 0, .int .u16 0, .int .u16 0] 76) = W at *
    have JJ := J0
    clear J0
    obtain ⟨c0, c1, c2, c3, c4, c5⟩ := mod_cells JJ.out.X
    have c6 := JJ.out.X.lt
    go_upto_region 2 with (go_at_call 27; (with_reducible refine (C2.out _ JJ.out.B).mono ?_); rintro e w2 ⟨rfl, hb⟩; have JJ := Lib.hid (JJ.out.belowS hb); clear hb)
    have J5 := Lib.hid ((JJ.out.alloc (.cells #[.bool cd] 4)).alloc (.cells #[.int .i64 a] 3))
    have X2 := Lib.hid ((Whole.new w2 4 #[.bool cd]).alloc (.cells #[.int .i64 a] 3))
    have X1 := Lib.hid (Whole.new (w2.alloc (.cells #[.bool cd] 4)) 3 #[.int .i64 a])
    rw [show (w2.alloc (.cells #[.bool cd] 4)).heap.size = w2.heap.size + 1 by simp] at X1
    generalize (w2.alloc (.cells #[.bool cd] 4)).alloc (.cells #[.int .i64 a] 3) = W5 at *
    have KQ := Lib.hid (fun (u' : World) (hu : Below W5.heap.size W5 u') => (⟨(X1.out.belowS hu).cell 0, (X2.out.belowS hu).cell 0⟩ : u'.cell? ⟨w2.heap.size + 1, 0, none⟩ = some (.int .i64 a) ∧ u'.cell? ⟨w2.heap.size, 0, none⟩ = some (.bool cd)))
    have CI := Lib.hid (HIX.out W5 _ _ J5.out.B KQ.out)
    clear HIX KQ X1 X2 c0 c1 c2 c3 c4 c5 c6 C2 JJ
    obtain ⟨c0, c1, c2, c3, c4, c5⟩ := mod_cells J5.out.X
    have c6 := J5.out.X.lt
    go_upto_region 5 with (go_at_call 69; (with_reducible refine CI.out.mono ?_); rintro e w6 ⟨rfl, hb⟩; have J6 := Lib.hid (J5.out.belowS hb); clear hb)
    clear c0 c1 c2 c3 c4 c5 c6 CI
    obtain ⟨c0, c1, c2, c3, c4, c5⟩ := mod_cells J6.out.X
    have c6 := J6.out.X.lt
    have d3 := J6.out.Y.lt
    have d4 := J6.out.Y.frozen 0
    have d5 := J6.out.Y.frozen 1
    have d6 := J6.out.Y.frozen 2
    obtain ⟨d0, d1, d2⟩ := rel_cells J6.out.Y
    by_cases hneg : hv < 0
    · have hm : hv = -1 := by
        rw [← HHV.out] at hneg ⊢
        unfold hit ff at hneg ⊢
        split at hneg
        · omega
        · rfl
      have e1 := HN.out (HHV.out.trans hm)
      subst e1
      go_wp2_with fail
      obtain ⟨z0, z1, z2⟩ := rel_cells (((J6.out.Y.set_ 0 (.int .u8 0)).set_ 1 (.int .u16 0)).set_ 2 (.int .u16 0))
      exact bodyPost_ret (v := .tuple #[.agg #[.int .u8 0, .int .u16 0, .int .u16 0], .bool false]) (by simp [results, Try.results43, go_sem, z0, z1, z2]) rfl ⟨rfl, ((J6.out.B.setCell (by simp) _).setCell (by simp) _).setCell (by simp) _⟩
    · obtain ⟨k, hk, kl, _, _⟩ := ff_at (p := hitB m i) (n := m.rels.length) (by have := HHV.out; unfold hit at this; rw [this]; omega)
      have hvk : hv = (k : Int) := HHV.out.symm.trans hk
      subst hvk
      have e9 := HY.out k HHV.out
      have hlt : k < rn := by rw [← HL.out]; exact kl
      have hlt' : (k : Int) < rn := by omega
      obtain ⟨g, off, rfl, q1, e0, e1, e2⟩ := HR.out.at J6.out.B hlt
      change w6.cell? _ = some (.int .u8 ((rl m k).kind : Int)) at e0
      change w6.cell? _ = some (.int .u16 ((rl m k).at_ : Int)) at e1
      change w6.cell? _ = some (.int .u16 ((rl m k).wh : Int)) at e2
      obtain ⟨⟨rk, rt, rw2⟩, hr⟩ : ∃ r, rl m k = r := ⟨_, rfl⟩
      rw [hr] at e0 e1 e2 e9
      subst e9
      clear hr hk HHV HN HY HF
      simp only at e0 e1 e2
      go_wp2_with fail
      obtain ⟨z0, z1, z2⟩ := rel_cells (((J6.out.Y.set_ 0 (.int .u8 (rk : Int))).set_ 1 (.int .u16 (rt : Int))).set_ 2 (.int .u16 (rw2 : Int)))
      exact bodyPost_ret (v := .tuple #[.agg #[.int .u8 (rk : Int), .int .u16 (rt : Int), .int .u16 (rw2 : Int)], .bool true]) (by simp [results, Try.results43, go_sem, z0, z1, z2]) rfl ⟨rfl, ((J6.out.B.setCell (by simp) _).setCell (by simp) _).setCell (by simp) _⟩
theorem word_any (h : RdM (· < w.heap.size) w ea en ec ia im ic ca cn cc da dn dc ra rn rc m) (hf : FineM m) (hl : cn * 4 ≤ 140737488355328 ∧ dn * 4 ≤ 140737488355328) (c d : Int) (hc : 0 ≤ c ∧ c ≤ 4294967295) (hd : 0 ≤ d ∧ d ≤ 4294967295)
    (l : List Nat) (v : Value) (R : Slots w v l) (hw : ∀ x ∈ l, x < 4294967296) (i : Int) (hi : -9223372036854775808 ≤ i ∧ i ≤ 9223372036854775807) :
    Calls Try.prog 17 #[mV (bs m.name) ea en ec ia im ic ca cn cc da dn dc ra rn rc, plV c d, v, .int .i64 i] w fun e w' => e = .returned (.tuple #[.int .u32 (wrdW m c d l i), .int .i64 (wrdE m c d l i)]) ∧ Below w.heap.size w w' := by
  obtain ⟨l1, l2, l3, l4, l5⟩ := h.lens
  have J0 := Lib.hid (LJ.new w (mCs (bs m.name) ea en ec ia im ic ca cn cc da dn dc ra rn rc) #[.int .u32 c, .int .u32 d] 48)
  have C1 := Lib.hid (fun (u : World) (hb : Below w.heap.size w u) => raw_any (h.go hb hb.size) hl i hi)
  have C2 := Lib.hid (fun (u : World) (hb : Below w.heap.size w u) => naming_any (h.go hb hb.size) hf hl i hi)
  have CV := Lib.hid (fun (u : World) (hb : Below w.heap.size w u) (k a j : Nat) (hk : k < 256) (hj : j < 65536) => value_any (k : Int) (a : Int) c d (j : Int) l v u (R.below hb) (by omega) hc hd (by omega))
  have HF := Lib.hid (fun (k : Nat) (hk : k < m.rels.length) => hf.rels _ (mem_getD (l := m.rels) (d := ⟨0, 0, 0⟩) (i := k) (by omega)))
  have HWN := Lib.hid (fun hh => wrd_none (m := m) (c := c) (d := d) (l := l) (i := i) hh)
  have HWS := Lib.hid (fun (k : Nat) hh => wrd_some (m := m) (c := c) (d := d) (l := l) (i := i) (k := k) hh)
  have hraw := rawV_lt hf i
  have CA := Lib.hid (fun (k : Nat) (hk : k < 256) (j : Nat) => apply_any ((rawV m.code m.data i : Nat) : Int) (k : Int) (valA (k : Int) (j : Int) c d l) (by omega) (by omega) (valA_bd hw))
  obtain ⟨Y, hY⟩ : ∃ Y : Int, ((rawV m.code m.data i : Nat) : Int) = Y := ⟨_, rfl⟩
  rw [hY] at C1 CA HWN HWS
  clear h hf hl l1 l2 l3 l4 l5 hw hc hd hi hraw hY R
  obtain ⟨XW, hXW⟩ : ∃ q, wrdW m c d l i = q := ⟨_, rfl⟩
  obtain ⟨XE, hXE⟩ : ∃ q, wrdE m c d l i = q := ⟨_, rfl⟩
  rw [hXW, hXE] at HWN HWS ⊢
  clear hXW hXE
  generalize bs m.name = x at *
  by_cases hneg : hit m i < 0
  · have hm : hit m i = -1 := by
      unfold hit ff at hneg ⊢
      split at hneg
      · omega
      · rfl
    obtain ⟨e1, e2⟩ := HWN.out hm
    subst e1 e2
    rw [nam_no hm] at C2
    simp only at C2
    clear hneg hm HWN HWS HF CA CV
    go_enter Try.func17, Try.ntmps17
    go_upto_region 1 with fail
    generalize (w.alloc (.cells (mCs x ea en ec ia im ic ca cn cc da dn dc ra rn rc) 45)).alloc (.cells #[.int .u32 c, .int .u32 d] 48) = W at *
    have JJ := J0
    clear J0
    obtain ⟨c0, c1, c2, c3, c4, c5⟩ := mod_cells JJ.out.X
    have c6 := JJ.out.X.lt
    go_upto_region 2 with (go_at_call 28; (with_reducible refine (C1.out _ JJ.out.B).mono ?_); rintro e w1 ⟨rfl, hb⟩; have J1 := Lib.hid (JJ.out.belowS hb); obtain ⟨c0, c1, c2, c3, c4, c5⟩ := mod_cells J1.out.X; have c6 := J1.out.X.lt; clear hb)
    go_upto_region 3 with (go_at_call 43; (with_reducible refine (C2.out _ J1.out.B).mono ?_); rintro e w2 ⟨rfl, hb⟩; have J2 := Lib.hid (J1.out.belowS hb); clear hb)
    have J3 := Lib.hid (J2.out.alloc (.cells #[.int .u8 0, .int .u16 0, .int .u16 0] 76))
    go_wp2_with fail
    exact bodyPost_ret (v := .tuple #[.int .u32 XW, .int .i64 0]) (by simp [results, Try.results17, go_sem, *]) rfl ⟨rfl, J3.out.B⟩
  · obtain ⟨k, hk, kl, _, _⟩ := ff_at (p := hitB m i) (n := m.rels.length) (by unfold hit at hneg; omega)
    have hF := HF.out k kl
    change (rl m k).kind < 256 ∧ (rl m k).at_ < 65536 ∧ (rl m k).wh < 65536 at hF
    have hh := HWS.out k hk
    rw [nam_yes hk] at C2
    obtain ⟨⟨rk, rt, rw2⟩, hr⟩ : ∃ r, rl m k = r := ⟨_, rfl⟩
    have HY := by_of (c := c) (d := d) (x := Y) (l := l) hr
    rw [hr] at hF C2
    rw [HY.1, HY.2] at hh
    simp only at C2
    clear hr HY hk HWS HWN hneg HF
    obtain ⟨hF0, hF1, hF2⟩ := hF
    simp only at hF0 hF1 hF2
    have CA := Lib.hid (CA.out rk hF0 rw2)
    have CV2 := Lib.hid (fun (u : World) (hb : Below w.heap.size w u) => CV.out u hb rk rt rw2 hF0 hF2)
    generalize valA (rk : Int) (rw2 : Int) c d l = VA at *
    generalize valE (rk : Int) (rw2 : Int) l = VE at *
    go_enter Try.func17, Try.ntmps17
    go_upto_region 1 with fail
    generalize (w.alloc (.cells (mCs x ea en ec ia im ic ca cn cc da dn dc ra rn rc) 45)).alloc (.cells #[.int .u32 c, .int .u32 d] 48) = W at *
    have JJ := J0
    clear J0
    obtain ⟨c0, c1, c2, c3, c4, c5⟩ := mod_cells JJ.out.X
    have c6 := JJ.out.X.lt
    go_upto_region 2 with (go_at_call 28; (with_reducible refine (C1.out _ JJ.out.B).mono ?_); rintro e w1 ⟨rfl, hb⟩; have J1 := Lib.hid (JJ.out.belowS hb); obtain ⟨c0, c1, c2, c3, c4, c5⟩ := mod_cells J1.out.X; have c6 := J1.out.X.lt; clear hb)
    go_upto_region 3 with (go_at_call 43; (with_reducible refine (C2.out _ J1.out.B).mono ?_); rintro e w2 ⟨rfl, hb⟩; have J2 := Lib.hid (J1.out.belowS hb); clear hb)
    clear c0 c1 c2 c3 c4 c5 c6 C1 C2
    have J3 := Lib.hid (J2.out.alloc (.cells #[.int .u8 (rk : Int), .int .u16 (rt : Int), .int .u16 (rw2 : Int)] 76))
    have HZ := Lib.hid (Whole.new w2 76 #[.int .u8 (rk : Int), .int .u16 (rt : Int), .int .u16 (rw2 : Int)])
    generalize w2.alloc (.cells #[.int .u8 (rk : Int), .int .u16 (rt : Int), .int .u16 (rw2 : Int)] 76) = W3 at *
    obtain ⟨d0, d1, d2⟩ := rel_cells HZ.out
    have d3 := HZ.out.lt
    obtain ⟨p0, p1⟩ := pl_cells J3.out.Y
    have p6 := J3.out.Y.lt
    by_cases hv : VE = 0
    · subst hv
      simp only [ne_eq, not_true_eq_false, if_false] at hh
      have H2 := Lib.hid hh
      clear hh
      go_wp2_with (first | (go_at_call 44; (with_reducible refine (CV2.out _ J3.out.B).mono ?_); rintro e w3 ⟨rfl, hb3⟩; have HJb := Lib.hid (J3.out.belowS hb3); obtain ⟨d0, d1, d2⟩ := rel_cells (HZ.out.belowS hb3); have d3 := (HZ.out.belowS hb3).lt; clear hb3) | (go_at_call 45; (with_reducible refine (CA.out.at _).mono ?_); rintro e w4 ⟨rfl, hb4⟩))
      exact bodyPost_ret (v := .tuple #[.int .u32 (apW Y rk VA), .int .i64 (apE Y rk VA)]) (by simp [results, Try.results17, go_sem, *]) rfl ⟨by rw [H2.out.1, H2.out.2], HJb.out.B.trans (hb4.mono HJb.out.B.size)⟩
    · rw [if_pos hv, if_pos hv] at hh
      have H2 := Lib.hid hh
      clear hh
      have hv' : (VE != 0) = true := by simpa using hv
      go_wp2_with (first | (go_at_call 44; (with_reducible refine (CV2.out _ J3.out.B).mono ?_); rintro e w3 ⟨rfl, hb3⟩; have HJb := Lib.hid (J3.out.belowS hb3); obtain ⟨d0, d1, d2⟩ := rel_cells (HZ.out.belowS hb3); have d3 := (HZ.out.belowS hb3).lt; clear hb3))
      exact bodyPost_ret (v := .tuple #[.int .u32 0, .int .i64 VE]) (by simp [results, Try.results17, go_sem, *]) rfl ⟨by rw [H2.out.1, H2.out.2], HJb.out.B⟩
/-- a module that is too long for an image -/
theorem isLong_any (h : RdM (· < w.heap.size) w ea en ec ia im ic ca cn cc da dn dc ra rn rc m) :
    Calls Try.prog 51 #[mV (bs m.name) ea en ec ia im ic ca cn cc da dn dc ra rn rc] w fun e w' => e = .returned (.bool (lngB m)) ∧ Below w.heap.size w w' := by
  obtain ⟨l1, l2, l3, l4, l5⟩ := h.lens
  have k3 := (reads_len h.cd).2
  have k4 := (reads_len h.dt).2
  have k5 := h.rl.len.2
  have hcn0 : (cn : Int) ≤ cc := by omega
  have hdn0 : (dn : Int) ≤ dc := by omega
  have hrn0 : (rn : Int) ≤ rc := by omega
  have HX := Lib.hid (Whole.new w 45 (mCs (bs m.name) ea en ec ia im ic ca cn cc da dn dc ra rn rc))
  have b0 := below_new w (.cells (mCs (bs m.name) ea en ec ia im ic ca cn cc da dn dc ra rn rc) 45)
  have HB := Lib.hid b0
  have hE : lngB m = decide (512 < cn ∨ 128 < dn ∨ 256 < rn) := by unfold lngB; rw [l3, l4, l5]
  rw [hE]
  clear h l1 l2 l3 l4 l5 k3 k4 k5 b0 hE
  generalize bs m.name = x at *
  by_cases g1 : 512 < cn
  · have g1' : (512 : Int) < cn := by omega
    rw [decide_eq_true (Or.inl g1)]
    go_enter Try.func51, Try.ntmps51
    go_upto_region 1 with fail
    generalize w.alloc (.cells (mCs x ea en ec ia im ic ca cn cc da dn dc ra rn rc) 45) = W at *
    obtain ⟨c0, c1, c2, c3, c4, c5⟩ := mod_cells HX.out
    have c6 := HX.out.lt
    go_wp2_with fail
    go_ret
    exact ⟨rfl, HB.out⟩
  have g1' : ¬ (512 : Int) < cn := by omega
  by_cases g2 : 128 < dn
  · have g2' : (128 : Int) < dn := by omega
    rw [decide_eq_true (Or.inr (Or.inl g2))]
    go_enter Try.func51, Try.ntmps51
    go_upto_region 1 with fail
    generalize w.alloc (.cells (mCs x ea en ec ia im ic ca cn cc da dn dc ra rn rc) 45) = W at *
    obtain ⟨c0, c1, c2, c3, c4, c5⟩ := mod_cells HX.out
    have c6 := HX.out.lt
    go_wp2_with fail
    go_ret
    exact ⟨rfl, HB.out⟩
  have g2' : ¬ (128 : Int) < dn := by omega
  by_cases g3 : 256 < rn
  · have g3' : (256 : Int) < rn := by omega
    rw [decide_eq_true (Or.inr (Or.inr g3))]
    go_enter Try.func51, Try.ntmps51
    go_upto_region 1 with fail
    generalize w.alloc (.cells (mCs x ea en ec ia im ic ca cn cc da dn dc ra rn rc) 45) = W at *
    obtain ⟨c0, c1, c2, c3, c4, c5⟩ := mod_cells HX.out
    have c6 := HX.out.lt
    go_wp2_with fail
    go_ret
    exact ⟨rfl, HB.out⟩
  have g3' : ¬ (256 : Int) < rn := by omega
  rw [decide_eq_false (by omega)]
  go_enter Try.func51, Try.ntmps51
  go_upto_region 1 with fail
  generalize w.alloc (.cells (mCs x ea en ec ia im ic ca cn cc da dn dc ra rn rc) 45) = W at *
  obtain ⟨c0, c1, c2, c3, c4, c5⟩ := mod_cells HX.out
  have c6 := HX.out.lt
  go_wp2_with fail
  go_ret
  exact ⟨rfl, HB.out⟩
end
end Go.Proofs.Ytajidaicojekdaa.KP
