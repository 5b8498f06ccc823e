/-
  Whether two harts are one, of both; a new hart. Nothing here is a statement of the seed.
-/
import Derived.Test.YtihcellcdkhadaaGreatHartCopy
import Derived.Laws.StructEq
set_option linter.unusedSimpArgs false
set_option linter.unusedVariables false
namespace Go.Proofs.YtihcellcdkhadaaGreat.HF
open Go.RowKit PM PR PF MM MR MF HM HR
set_option maxHeartbeats 2000000
set_option maxRecDepth 10000
section
variable {P : Program} (w : World)
theorem rng_all : ∀ (xs ys : List Int), xs.length = ys.length → ((List.range xs.length).all fun i => xs.getD i 0 == ys.getD i 0) = (xs == ys)
  | [], [], _ => rfl
  | x :: xs, y :: ys, h => by
    have ih := rng_all xs ys (by simpa using h)
    simp only [List.length_cons, List.range_succ_eq_map, List.all_cons, List.all_map, List.getD_cons_zero, Function.comp_def, List.getD_cons_succ]
    rw [show ((List.range xs.length).all fun i => xs.getD i 0 == ys.getD i 0) = (xs == ys) from ih]
    simp [List.cons_beq_cons]
  | [], _ :: _, h => by simp at h
  | _ :: _, [], h => by simp at h
theorem equalIn_words (d : Nat) (t e : TypeId) (n : Nat) (ht : P.underlying t = some (.array n e)) (he : P.underlying e = some (.int .u32)) (hsz : ∀ w, (sizeOf e).run P w = .ok 1 w)
    (xs ys : List Int) (hx : xs.length = n) (hy : ys.length = n) :
    (Op.equalIn (d + 2) t (.agg (xs.map (Value.int .u32)).toArray) (.agg (ys.map (Value.int .u32)).toArray)).run P w = .ok (xs == ys) w := by
  rw [← rng_all xs ys (hx.trans hy.symm), hx, List.range_eq_range', Op.equalIn]
  simp only [Sem.run_bind, run_underlying ht, Result.andThen_ok, hsz, Std.Legacy.Range.forIn_eq_forIn_range', Std.Legacy.Range.size, Nat.sub_zero, Nat.add_sub_cancel, Nat.div_one]
  have hl : ∀ i ∈ List.range' 0 n 1, i < n := fun i hi => by simpa using (List.mem_range'_1.1 hi).2
  generalize List.range' 0 n 1 = l at hl ⊢
  induction l with
  | nil => simp
  | cons i l ih =>
    have hi : i < n := hl i (by simp)
    have px : (part e (xs.map (Value.int .u32)).toArray (i * 1)).run P w = .ok (.int .u32 (xs.getD i 0)) w := by
      simp [part, isAgg, run_underlying he, List.getD, List.getElem?_eq_getElem (show i < xs.length by omega)]
    have py : (part e (ys.map (Value.int .u32)).toArray (i * 1)).run P w = .ok (.int .u32 (ys.getD i 0)) w := by
      simp [part, isAgg, run_underlying he, List.getD, List.getElem?_eq_getElem (show i < ys.length by omega)]
    have pe : (Op.equalIn (d + 1) e (.int .u32 (xs.getD i 0)) (.int .u32 (ys.getD i 0))).run P w = .ok (xs.getD i 0 == ys.getD i 0) w := run_equalIn_int w d e .u32 .u32 _ _ he
    simp only [List.forIn_cons, Sem.run_bind, px, py, pe, Result.andThen_ok, List.all_cons]
    cases hb : (xs.getD i 0 == ys.getD i 0)
    · simp
    · simp only [Bool.not_true, Bool.false_eq_true, if_false, Sem.run_pure, Result.andThen_ok, Bool.true_and]
      exact ih fun j hj => hl j (by simp [hj])
theorem eql_words (t e : TypeId) (n : Nat) (ht : P.underlying t = some (.array n e)) (he : P.underlying e = some (.int .u32)) (hsz : ∀ w, (sizeOf e).run P w = .ok 1 w)
    (xs ys : List Int) (hx : xs.length = n) (hy : ys.length = n) :
    (binOp .eql t (.agg (xs.map (Value.int .u32)).toArray) (.agg (ys.map (Value.int .u32)).toArray)).run P w = .ok (.bool (xs == ys)) w := by
  rw [run_eql_struct, equalIn_words w 9998 t e n ht he hsz xs ys hx hy]
  rfl
theorem neq_words (t e : TypeId) (n : Nat) (ht : P.underlying t = some (.array n e)) (he : P.underlying e = some (.int .u32)) (hsz : ∀ w, (sizeOf e).run P w = .ok 1 w)
    (xs ys : List Int) (hx : xs.length = n) (hy : ys.length = n) :
    (binOp .neq t (.agg (xs.map (Value.int .u32)).toArray) (.agg (ys.map (Value.int .u32)).toArray)).run P w = .ok (.bool (!(xs == ys))) w := by
  rw [run_neq_struct, equalIn_words w 9998 t e n ht he hsz xs ys hx hy]
  rfl
end

/-- the registers as a list -/
abbrev r8 (R : Nat → Int) : List Int := [R 0, R 1, R 2, R 3, R 4, R 5, R 6, R 7]
abbrev rA (R : Nat → Int) : Value := .agg #[.int .u32 (R 0), .int .u32 (R 1), .int .u32 (R 2), .int .u32 (R 3), .int .u32 (R 4), .int .u32 (R 5), .int .u32 (R 6), .int .u32 (R 7)]
theorem szU32 : ∀ w, (sizeOf 23).run Tryz.prog w = .ok 1 w := fun w => by simp [go_sem]
theorem r8_eql (R R' : Nat → Int) (w : World) : (binOp .eql 26 (rA R) (rA R')).run Tryz.prog w = .ok (.bool (r8 R == r8 R')) w := eql_words w _ _ 8 Tryz.underlying26 Tryz.underlying23 szU32 (r8 R) (r8 R') rfl rfl
theorem r8_neq (R R' : Nat → Int) (w : World) : (binOp .neq 26 (rA R) (rA R')).run Tryz.prog w = .ok (.bool (!(r8 R == r8 R'))) w := neq_words w _ _ 8 Tryz.underlying26 Tryz.underlying23 szU32 (r8 R) (r8 R') rfl rfl
theorem rd_at {B : Nat} {w u : World} {a : Option Addr} {n c : Nat} {l : List Int} (h : Rs B w a n c l) (hb : Below B w u) {k : Nat} (hk : k < n) : ∃ g off, a = some ⟨g, off, none⟩ ∧ n ≤ c ∧ u.cell? ⟨g, off + k, none⟩ = some (.int .u32 (l.getD k 0)) := by
  have hl := h.len
  have hne : wcs l ≠ [] := by
    intro e
    have h0 : (wcs l).length = 0 := by rw [e]; rfl
    rw [wcs_len] at h0
    omega
  obtain ⟨g, off, cap, hv, hg, h1, h2, hc⟩ := (h.below hb).cells hne
  simp only [Value.slice.injEq] at hv
  have := hc k (by rw [wcs_len]; omega)
  rw [wcs_at (by omega)] at this
  exact ⟨g, off, hv.1, hl.2.1, this⟩
theorem take_on {l l' : List Int} {k : Nat} (h : l.take k = l'.take k) (h1 : k < l.length) (h2 : k < l'.length) (e : l.getD k 0 = l'.getD k 0) : l.take (k + 1) = l'.take (k + 1) := by
  rw [List.take_succ_eq_append_getElem h1, List.take_succ_eq_append_getElem h2, h]
  simp only [List.getD_eq_getElem?_getD, List.getElem?_eq_getElem h1, List.getElem?_eq_getElem h2, Option.getD_some] at e
  rw [e]
theorem equal_any {w : World} {a : Option Addr} {n c : Nat} {l : List Int} {a' : Option Addr} {n' c' : Nat} {l' : List Int} (h1 : Rs w.heap.size w a n c l) (h2 : Rs w.heap.size w a' n' c' l') :
    Calls Tryz.prog 49 #[.slice a n c, .slice a' n' c'] w fun e w' => e = .returned (.bool (decide (l = l'))) ∧ Below w.heap.size w w' := by
  obtain ⟨H1, H1c, H1m⟩ := h1.len
  obtain ⟨H2, H2c, H2m⟩ := h2.len
  unfold maxLen at H1m H2m
  by_cases hn : n = n'
  · subst hn
    have HA := Lib.hid h1
    have HB := Lib.hid h2
    have HL := Lib.hid (And.intro H1 H2)
    clear h1 h2 H1 H2
    go_enter Tryz.func49, Tryz.ntmps49
    go_wp2_with fail
    go_loopw [13] (fun i wr => ∃ k : Nat, k ≤ n ∧ i = .int .i64 (k : Int) ∧ Hid (l.take k = l'.take k) ∧ Below w.heap.size w wr) (fun i _ => n - (intOf i).toNat)
    case atStart => exact ⟨0, by omega, rfl, Lib.hid rfl, Below.refl _ _⟩
    case round =>
      obtain ⟨k, hk, rfl, hp, hbl⟩ := hrel
      by_cases hlt : k < n
      · have hlt' : (k : Int) < n := by omega
        obtain ⟨g, off, rfl, q1, c1⟩ := rd_at HA.out hbl hlt
        obtain ⟨g2, off2, rfl, q2, c2⟩ := rd_at HB.out hbl hlt
        by_cases e : l.getD k 0 = l'.getD k 0
        · have hp2 := Lib.hid (take_on hp.out (by rw [HL.out.1]; exact hlt) (by rw [HL.out.2]; exact hlt) e)
          rw [← e] at c2
          clear e hp
          generalize l.getD k 0 = x at *
          go_wp2_with fail
          go_quiet (fail)
          go_wp2_with fail
          go_roundw
          case rel => exact ⟨k + 1, by omega, by go_num, hp2, below_drewN hbl _⟩
          case measure => simp [intOf]; omega
        · have hne := Lib.hid (show ¬ l = l' from fun h => e (by rw [h]))
          generalize l.getD k 0 = x at *
          generalize l'.getD k 0 = y at *
          have exy : (x == y) = false := by simpa using e
          clear hp
          go_wp2_with fail
          go_quiet (fail)
          go_wp2_with fail
          go_ret
          exact ⟨by rw [decide_eq_false hne.out]; rfl, below_drewN hbl _⟩
      · obtain rfl : k = n := by omega
        have hp2 := Lib.hid (show l = l' by have := hp.out; rw [List.take_of_length_le (by rw [HL.out.1]; omega), List.take_of_length_le (by rw [HL.out.2]; omega)] at this; exact this)
        clear hp
        go_wp2_with fail
        go_ret
        exact ⟨by rw [decide_eq_true hp2.out]; rfl, hbl⟩
  · have hne := Lib.hid (show ¬ l = l' from fun h => hn (by rw [← H1, ← H2, h]))
    have hn2 : ¬ (n : Int) = n' := by omega
    clear h1 h2 H1 H2 hn
    go_enter Tryz.func49, Tryz.ntmps49
    go_wp2_with fail
    go_ret
    exact ⟨by rw [decide_eq_false hne.out]; rfl, Below.refl _ _⟩
/-- one hart: all parts equal -/
abbrev One (pc : Int) (R : Nat → Int) (l : List Int) (why ep home : Int) (pc' : Int) (R' : Nat → Int) (l' : List Int) (why' ep' home' : Int) : Prop := pc = pc' ∧ r8 R = r8 R' ∧ l = l' ∧ why = why' ∧ ep = ep' ∧ home = home'
theorem new_any (home : Int) : Says Tryz.prog 48 #[.int .u32 home] (hV home (fun _ => 0) none 0 0 0 0 home) := by
  intro w
  go_enter Tryz.func48, Tryz.ntmps48
  go_wp2_with fail
  exact bodyPost_ret (v := hV home (fun _ => 0) none 0 0 0 0 home) (by simp [results, Tryz.results48, go_sem]) rfl ⟨rfl, bl1 ..⟩
theorem sameH_any {w : World} (pc : Int) (R : Nat → Int) {a : Option Addr} {n c : Nat} {l : List Int} (why ep home : Int) (pc2 : Int) (R2 : Nat → Int) {a2 : Option Addr} {n2 c2 : Nat} {l2 : List Int} (why2 ep2 home2 : Int) (h1 : Rs w.heap.size w a n c l) (h2 : Rs w.heap.size w a2 n2 c2 l2) :
    Calls Tryz.prog 13 #[hV pc R a n c why ep home, hV pc2 R2 a2 n2 c2 why2 ep2 home2] w fun e w' => e = .returned (.bool (decide (One pc R l why ep home pc2 R2 l2 why2 ep2 home2))) ∧ Below w.heap.size w w' := by
  have hb0 : Below w.heap.size w ((w.alloc (.cells (hCs pc R a n c why ep home) 30)).alloc (.cells (hCs pc2 R2 a2 n2 c2 why2 ep2 home2) 30)) := bl2 ..
  have B1 := (Whole.new w 30 (hCs pc R a n c why ep home)).alloc (.cells (hCs pc2 R2 a2 n2 c2 why2 ep2 home2) 30)
  have B2 := Whole.new (w.alloc (.cells (hCs pc R a n c why ep home) 30)) 30 (hCs pc2 R2 a2 n2 c2 why2 ep2 home2)
  simp only [World.size_alloc] at B2
  have BX := Lib.hid (And.intro B1 B2)
  have CE := Lib.hid (equal_any (w := ((w.alloc (.cells (hCs pc R a n c why ep home) 30)).alloc (.cells (hCs pc2 R2 a2 n2 c2 why2 ep2 home2) 30))) ((h1.below hb0).mono (fun g hg => by simp; omega)) ((h2.below hb0).mono (fun g hg => by simp; omega)))
  have HB0 := Lib.hid hb0
  have hq := r8_eql R R2
  clear h1 h2 hb0 B1 B2
  by_cases e0 : pc = pc2
  case neg =>
    have HD := Lib.hid (decide_eq_false (show ¬ One pc R l why ep home pc2 R2 l2 why2 ep2 home2 from fun h => e0 h.1))
    go_enter Tryz.func13, Tryz.ntmps13
    go_wp2_with fail
    go_ret
    exact ⟨by rw [HD.out]; rfl, HB0.out⟩
  obtain rfl := e0
  by_cases e1 : r8 R = r8 R2
  case neg =>
    have HD := Lib.hid (decide_eq_false (show ¬ One pc R l why ep home pc R2 l2 why2 ep2 home2 from fun h => e1 h.2.1))
    rw [show (r8 R == r8 R2) = false by simpa using e1] at hq
    clear e1
    go_enter Tryz.func13, Tryz.ntmps13
    go_wp2_with fail
    go_ret
    exact ⟨by rw [HD.out]; rfl, HB0.out⟩
  rw [show (r8 R == r8 R2) = true by simpa using e1] at hq
  have E1 := Lib.hid e1
  clear e1
  by_cases e2 : l = l2
  case neg =>
    have HD := Lib.hid (decide_eq_false (show ¬ One pc R l why ep home pc R2 l2 why2 ep2 home2 from fun h => e2 h.2.2.1))
    rw [decide_eq_false e2] at CE
    clear e2
    go_enter Tryz.func13, Tryz.ntmps13
    go_wp2_with (go_at_call 49; (with_reducible refine CE.out.mono ?_); rintro e w1 ⟨rfl, hb⟩; have HB1 := Lib.hid (below_of HB0.out hb); have X1 := BX.out.1.belowS hb; have X2 := BX.out.2.belowS hb; have q1 := X1.lt; have q2 := X2.lt; obtain ⟨d0, d1, d2, d3, d4, d5, d6, d7, d8, d9, d10, d11, d12⟩ := hart_cells X1; obtain ⟨y0, y1, y2, y3, y4, y5, y6, y7, y8, y9, y10, y11, y12⟩ := hart_cells X2; clear hb X1 X2)
    go_ret
    exact ⟨by rw [HD.out]; rfl, HB1.out⟩
  rw [decide_eq_true e2] at CE
  have E2 := Lib.hid e2
  clear e2
  by_cases e3 : why = why2
  case neg =>
    have HD := Lib.hid (decide_eq_false (show ¬ One pc R l why ep home pc R2 l2 why2 ep2 home2 from fun h => e3 h.2.2.2.1))
    go_enter Tryz.func13, Tryz.ntmps13
    go_wp2_with (go_at_call 49; (with_reducible refine CE.out.mono ?_); rintro e w1 ⟨rfl, hb⟩; have HB1 := Lib.hid (below_of HB0.out hb); have X1 := BX.out.1.belowS hb; have X2 := BX.out.2.belowS hb; have q1 := X1.lt; have q2 := X2.lt; obtain ⟨d0, d1, d2, d3, d4, d5, d6, d7, d8, d9, d10, d11, d12⟩ := hart_cells X1; obtain ⟨y0, y1, y2, y3, y4, y5, y6, y7, y8, y9, y10, y11, y12⟩ := hart_cells X2; clear hb X1 X2)
    go_ret
    exact ⟨by rw [HD.out]; rfl, HB1.out⟩
  obtain rfl := e3
  by_cases e4 : ep = ep2
  case neg =>
    have HD := Lib.hid (decide_eq_false (show ¬ One pc R l why ep home pc R2 l2 why ep2 home2 from fun h => e4 h.2.2.2.2.1))
    go_enter Tryz.func13, Tryz.ntmps13
    go_wp2_with (go_at_call 49; (with_reducible refine CE.out.mono ?_); rintro e w1 ⟨rfl, hb⟩; have HB1 := Lib.hid (below_of HB0.out hb); have X1 := BX.out.1.belowS hb; have X2 := BX.out.2.belowS hb; have q1 := X1.lt; have q2 := X2.lt; obtain ⟨d0, d1, d2, d3, d4, d5, d6, d7, d8, d9, d10, d11, d12⟩ := hart_cells X1; obtain ⟨y0, y1, y2, y3, y4, y5, y6, y7, y8, y9, y10, y11, y12⟩ := hart_cells X2; clear hb X1 X2)
    go_ret
    exact ⟨by rw [HD.out]; rfl, HB1.out⟩
  obtain rfl := e4
  by_cases e5 : home = home2
  case neg =>
    have HD := Lib.hid (decide_eq_false (show ¬ One pc R l why ep home pc R2 l2 why ep home2 from fun h => e5 h.2.2.2.2.2))
    have eb : (home == home2) = false := by simpa using e5
    go_enter Tryz.func13, Tryz.ntmps13
    go_wp2_with (go_at_call 49; (with_reducible refine CE.out.mono ?_); rintro e w1 ⟨rfl, hb⟩; have HB1 := Lib.hid (below_of HB0.out hb); have X1 := BX.out.1.belowS hb; have X2 := BX.out.2.belowS hb; have q1 := X1.lt; have q2 := X2.lt; obtain ⟨d0, d1, d2, d3, d4, d5, d6, d7, d8, d9, d10, d11, d12⟩ := hart_cells X1; obtain ⟨y0, y1, y2, y3, y4, y5, y6, y7, y8, y9, y10, y11, y12⟩ := hart_cells X2; clear hb X1 X2)
    go_ret
    exact ⟨by rw [HD.out, ← eb]; rfl, HB1.out⟩
  obtain rfl := e5
  have HD := Lib.hid (decide_eq_true (show One pc R l why ep home pc R2 l2 why ep home from ⟨rfl, E1.out, E2.out, rfl, rfl, rfl⟩))
  go_enter Tryz.func13, Tryz.ntmps13
  go_wp2_with (go_at_call 49; (with_reducible refine CE.out.mono ?_); rintro e w1 ⟨rfl, hb⟩; have HB1 := Lib.hid (below_of HB0.out hb); have X1 := BX.out.1.belowS hb; have X2 := BX.out.2.belowS hb; have q1 := X1.lt; have q2 := X2.lt; obtain ⟨d0, d1, d2, d3, d4, d5, d6, d7, d8, d9, d10, d11, d12⟩ := hart_cells X1; obtain ⟨y0, y1, y2, y3, y4, y5, y6, y7, y8, y9, y10, y11, y12⟩ := hart_cells X2; clear hb X1 X2)
  go_ret
  exact ⟨by rw [HD.out]; rfl, HB1.out⟩
end Go.Proofs.YtihcellcdkhadaaGreat.HF
