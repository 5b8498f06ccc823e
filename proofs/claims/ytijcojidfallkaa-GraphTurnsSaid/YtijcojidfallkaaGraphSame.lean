/-
  The law's look at both graphs: they tell the same. Nothing here is a statement of the seed.
-/
import Derived.Test.YtijcojidfallkaaGraphDo
import Derived.Deep.RegionHeld3
import Derived.Test.YtijcojidfallkaaGraphRch2
import Derived.Test.YtijcojidfallkaaGraphRef6
set_option linter.unusedSimpArgs false
set_option linter.unusedVariables false
namespace Go.Proofs.Ytijcojidfallkaa.GL
open Go.RowKit WM NR OM OR GM GR GF GP
set_option maxHeartbeats 8000000
set_option maxRecDepth 10000
abbrev SJ (w : World) (la : Option Addr) (ln lc : Nat) (u : World) : Prop := u.cell? ⟨w.heap.size, 0, none⟩ = some (.slice la ln lc) ∧ Below w.heap.size w u ∧ w.heap.size < u.heap.size
theorem SJ.go {w u u' : World} {la : Option Addr} {ln lc : Nat} (h : SJ w la ln lc u) (hb : Below u.heap.size u u') : SJ w la ln lc u' :=
  ⟨(hb.cell (p := ⟨w.heap.size, 0, none⟩) h.2.2).trans h.1, below_of h.2.1 hb, Nat.lt_of_lt_of_le h.2.2 hb.size⟩
/-- texts that a call has told -/
def IsT (l : List Tx) (v : Value) (u : World) : Prop := ∃ sa sc, v = .slice sa l.length sc ∧ Reads (· < u.heap.size) u (.slice sa l.length sc) (strs l)
theorem IsT.go {l : List Tx} {v : Value} {u u' : World} (h : IsT l v u) (hb : Below u.heap.size u u') : IsT l v u' := by
  obtain ⟨sa, sc, e, hr⟩ := h
  exact ⟨sa, sc, e, (hr.below hb).mono fun g hg => Nat.lt_of_lt_of_le hg hb.size⟩
section
variable {G S : Nat → Prop} {w : World} {v : Value} {la : Option Addr} {ln lc : Nat} {l : List Nr}
theorem same_any (h : Duo G S w v la ln lc l) (hg : GM.Good (ndL l)) (hb : ln ≤ 100) (x y : List UInt8) (hx : x.length ≤ 140737488351232) (hy : y.length ≤ 140737488351232) :
    Calls Try.prog 12 #[v, gV la ln lc, .string (bs x), .string (bs y)] w fun e u => e = .returned (.bool true) ∧ Below w.heap.size w u := by
  obtain ⟨ll, q2, lm⟩ := h.R.len
  have hln : (ndL l).length ≤ 100 := by rw [List.length_map]; omega
  have hRw : RdG (· < w.heap.size) w la ln lc l := h.R.mono fun g hg => (h.GS g hg).2
  have kp : ∀ u, Below w.heap.size w u → PT S u v (ndL l) := fun u hb0 => h.P.keep hb0.size fun g hg => hb0.block g (h.P.lt g hg)
  have lk : ∀ {L : List Tx} {u : World} {e : Ending} {u' : World}, IsL u L e u' → ∃ v', e = .returned v' ∧ IsT L v' u' ∧ Below u.heap.size u u' := fun ⟨a, c, he, hr, hb⟩ => ⟨_, he, ⟨a, c, rfl, hr.mono fun g hg => hg.2⟩, hb⟩
  have P1 := Lib.hid (fun (u : World) (hu : SJ w la ln lc u) => (order_any (kp u hu.2.1) hg hln).mono fun e u' h => lk h)
  have R1 := Lib.hid (fun (u : World) (hu : SJ w la ln lc u) => (refOrder_any (hRw.go hu.2.1 hu.2.1.size) (by omega)).mono fun e u' h => lk h)
  have P2 := Lib.hid (fun (u : World) (hu : SJ w la ln lc u) => (deps_any (kp u hu.2.1) hg hln x (by omega)).mono fun e u' h => lk h)
  have R2 := Lib.hid (fun (u : World) (hu : SJ w la ln lc u) => (refDeps_any (hRw.go hu.2.1 hu.2.1.size) x).mono (R' := fun e u' => ∃ v', e = .returned v' ∧ IsT (depsM (ndL l) x) v' u' ∧ Below u.heap.size u u') fun e u' ⟨a, n, c, he, hr, hb⟩ => by
    have hl := (reads_len hr).1
    rw [strs_len] at hl
    subst hl
    exact ⟨_, he, ⟨a, c, rfl, (hr.below hb).mono fun g hg => Nat.lt_of_lt_of_le hg hb.size⟩, hb⟩)
  have P3 := Lib.hid (fun (u : World) (hu : SJ w la ln lc u) => (dpt_any (kp u hu.2.1) hg hln x (by omega)).mono fun e u' h => lk h)
  have R3 := Lib.hid (fun (u : World) (hu : SJ w la ln lc u) => (refDpt_any (hRw.go hu.2.1 hu.2.1.size) (by omega) x).mono fun e u' h => lk h)
  have P4 := Lib.hid (fun (u : World) (hu : SJ w la ln lc u) => has_any (kp u hu.2.1) hg hln x (by omega))
  have R4 := Lib.hid (fun (u : World) (hu : SJ w la ln lc u) => refHas_any (hRw.go hu.2.1 hu.2.1.size) x)
  have P5 := Lib.hid (fun (u : World) (hu : SJ w la ln lc u) => reaches_any (kp u hu.2.1) hg hln x y (by omega) (by omega))
  have R5 := Lib.hid (fun (u : World) (hu : SJ w la ln lc u) => refReaches_any (hRw.go hu.2.1 hu.2.1.size) hg (by omega) x y)
  have P6 := Lib.hid (fun (u : World) (hu : SJ w la ln lc u) => reaches_any (kp u hu.2.1) hg hln y x (by omega) (by omega))
  have R6 := Lib.hid (fun (u : World) (hu : SJ w la ln lc u) => refReaches_any (hRw.go hu.2.1 hu.2.1.size) hg (by omega) y x)
  have SA : Hid (∀ (L : List Tx) (u : World) (a b : Option Addr) (c d : Nat), Reads (· < u.heap.size) u (.slice a L.length c) (strs L) → Reads (· < u.heap.size) u (.slice b L.length d) (strs L) → Calls Try.prog 22 #[.slice a L.length c, .slice b L.length d] u fun e w' => e = .returned (.bool true) ∧ Below u.heap.size u w') := Lib.hid (fun L u a b c d h1 h2 => by
    have := refSame_any h1 h2
    rw [decide_eq_true rfl] at this
    exact this)
  have hX := Whole.new w 29 (gC la ln lc)
  have J0 := Lib.hid (show SJ w la ln lc (w.alloc (.cells (gC la ln lc) 29)).drew from (show SJ w la ln lc (w.alloc (.cells (gC la ln lc) 29)) from ⟨hX.cell 0, below_new w _, by simp⟩).go (Below.refl _ _).drew)
  clear h hg hb hx hy ll q2 lm hln hRw kp lk hX
  generalize bs x = x' at *
  generalize bs y = y' at *
  generalize orderM (ndL l) = L1 at *
  generalize depsM (ndL l) x = L2 at *
  generalize dptM (ndL l) x = L3 at *
  generalize hasM (ndL l) x = b4 at *
  generalize reachesM (ndL l) x y = b5 at *
  generalize reachesM (ndL l) y x = b6 at *
  go_enter Try.func12, Try.ntmps12
  go_upto_region 1 with fail
  have K0 := J0.out
  clear J0
  refine wp_region_held_drew (S := fun u => SJ w la ln lc u) (by kernel_rfl) K0 (fun hHeld => ?_)
  refine wpAnyH_take (i := 0) (v := ?avv0) rfl (by kernel_rfl) (by kernel_rfl) (by kernel_rfl) (fun _ _ _ h => h) (Or.inl ⟨by rfl, ?ahy0⟩) (by assumption) ?arest0
  case ahy0 =>
    intro u hSu
    obtain ⟨s0, s1, s2⟩ := hSu
    go_simp
    try with_reducible rfl
  try simp only [Act.put, List.getElem_toArray, List.getElem_cons_succ, List.getElem_cons_zero, List.setIfInBounds_toArray, List.set_cons_zero, List.set_cons_succ]
  refine wpAnyH_take (i := 2) (v := ?avv2) rfl (by kernel_rfl) (by kernel_rfl) (by kernel_rfl) (fun _ _ _ h => h) (Or.inl ⟨by rfl, ?ahy2⟩) (by assumption) ?arest2
  case ahy2 =>
    intro u hSu
    obtain ⟨s0, s1, s2⟩ := hSu
    go_simp
    try with_reducible rfl
  try simp only [Act.put, List.getElem_toArray, List.getElem_cons_succ, List.getElem_cons_zero, List.setIfInBounds_toArray, List.set_cons_zero, List.set_cons_succ]
  refine wpAnyH_ready (rs := [1]) (by kernel_rfl) (by simp) ?_
  refine AllReadyH.cons rfl (fun K hK => ?_) AllReadyH.nil
  (go_simp; go_at_call 21; (with_reducible refine (P1.out _ K0).mono ?_); rintro e p1 ⟨v1, rfl, ⟨sa, sc, rfl, hra⟩, hb⟩; have HA := Lib.hid hra; have KA1 : SJ w la ln lc p1 := SJ.go K0 hb; clear hb hra)
  refine hK.out _ _ ?ahS1 (fun hHeld => ?arest1)
  case ahS1 => (with_reducible assumption)
  clear hK K
  try simp only [Act.put, List.getElem_toArray, List.getElem_cons_succ, List.getElem_cons_zero, List.setIfInBounds_toArray, List.set_cons_zero, List.set_cons_succ]
  refine wpAnyH_ready (rs := [3]) (by kernel_rfl) (by simp) ?_
  refine AllReadyH.cons rfl (fun K hK => ?_) AllReadyH.nil
  (go_simp; go_at_call 28; (with_reducible refine (R1.out _ KA1).mono ?_); rintro e q1 ⟨v2, rfl, ⟨sb, sd, rfl, hrb⟩, hb⟩; have HB := Lib.hid hrb; have HA := Lib.hid ((HA.out.below hb).mono fun g hg => Nat.lt_of_lt_of_le hg hb.size); have KB1 : SJ w la ln lc q1 := SJ.go KA1 hb; have CS := Lib.hid (SA.out L1 q1 sa sb sc sd HA.out HB.out); clear hb hrb)
  refine hK.out _ _ ?ahS3 (fun hHeld => ?arest3)
  case ahS3 => (with_reducible assumption)
  clear hK K
  try simp only [Act.put, List.getElem_toArray, List.getElem_cons_succ, List.getElem_cons_zero, List.setIfInBounds_toArray, List.set_cons_zero, List.set_cons_succ]
  refine wpAnyH_ready (rs := [4]) (by kernel_rfl) (by simp) ?_
  refine AllReadyH.cons rfl (fun K hK => ?_) AllReadyH.nil
  (go_simp; go_at_call 22; (with_reducible refine CS.out.mono ?_); rintro e z1 ⟨rfl, hz⟩; have K1 : SJ w la ln lc z1 := SJ.go KB1 hz; clear hz CS)
  refine hK.out _ _ ?ahS4 (fun hHeld => ?arest4)
  case ahS4 => (with_reducible assumption)
  clear hK K
  try simp only [Act.put, List.getElem_toArray, List.getElem_cons_succ, List.getElem_cons_zero, List.setIfInBounds_toArray, List.set_cons_zero, List.set_cons_succ]
  refine wpAnyH_take (i := 5) (v := ?avv5) rfl (by kernel_rfl) (by kernel_rfl) (by kernel_rfl) (fun _ _ _ h => h) (Or.inl ⟨by rfl, ?ahy5⟩) (by assumption) ?arest5
  case ahy5 =>
    intro u hSu
    obtain ⟨s0, s1, s2⟩ := hSu
    go_simp
    try with_reducible rfl
  try simp only [Act.put, List.getElem_toArray, List.getElem_cons_succ, List.getElem_cons_zero, List.setIfInBounds_toArray, List.set_cons_zero, List.set_cons_succ]
  refine wpAnyH_take (i := 6) (v := ?bvv6) rfl (by kernel_rfl) (by kernel_rfl) (by kernel_rfl) (fun _ _ _ h => h) (Or.inl ⟨by rfl, ?bhy6⟩) (by assumption) ?brest6
  case bhy6 =>
    intro u hSu
    obtain ⟨s0, s1, s2⟩ := hSu
    go_simp
    try with_reducible rfl
  try simp only [Act.put, List.getElem_toArray, List.getElem_cons_succ, List.getElem_cons_zero, List.setIfInBounds_toArray, List.set_cons_zero, List.set_cons_succ]
  refine wpAnyH_take (i := 7) (v := ?bvv7) rfl (by kernel_rfl) (by kernel_rfl) (by kernel_rfl) (fun _ _ _ h => h) (Or.inl ⟨by rfl, ?bhy7⟩) (by assumption) ?brest7
  case bhy7 =>
    intro u hSu
    obtain ⟨s0, s1, s2⟩ := hSu
    go_simp
    try with_reducible rfl
  try simp only [Act.put, List.getElem_toArray, List.getElem_cons_succ, List.getElem_cons_zero, List.setIfInBounds_toArray, List.set_cons_zero, List.set_cons_succ]
  refine wpAnyH_take (i := 9) (v := ?bvv9) rfl (by kernel_rfl) (by kernel_rfl) (by kernel_rfl) (fun _ _ _ h => h) (Or.inl ⟨by rfl, ?bhy9⟩) (by assumption) ?brest9
  case bhy9 =>
    intro u hSu
    obtain ⟨s0, s1, s2⟩ := hSu
    go_simp
    try with_reducible rfl
  try simp only [Act.put, List.getElem_toArray, List.getElem_cons_succ, List.getElem_cons_zero, List.setIfInBounds_toArray, List.set_cons_zero, List.set_cons_succ]
  refine wpAnyH_take (i := 10) (v := ?bvv10) rfl (by kernel_rfl) (by kernel_rfl) (by kernel_rfl) (fun _ _ _ h => h) (Or.inl ⟨by rfl, ?bhy10⟩) (by assumption) ?brest10
  case bhy10 =>
    intro u hSu
    obtain ⟨s0, s1, s2⟩ := hSu
    go_simp
    try with_reducible rfl
  try simp only [Act.put, List.getElem_toArray, List.getElem_cons_succ, List.getElem_cons_zero, List.setIfInBounds_toArray, List.set_cons_zero, List.set_cons_succ]
  refine wpAnyH_ready (rs := [8]) (by kernel_rfl) (by simp) ?_
  refine AllReadyH.cons rfl (fun K hK => ?_) AllReadyH.nil
  (go_simp; go_at_call 18; (with_reducible refine (P2.out _ K1).mono ?_); rintro e p2 ⟨v1, rfl, ⟨sa, sc, rfl, hra⟩, hb⟩; have HA := Lib.hid hra; have KA2 : SJ w la ln lc p2 := SJ.go K1 hb; clear hb hra)
  refine hK.out _ _ ?bhS8 (fun hHeld => ?brest8)
  case bhS8 => (with_reducible assumption)
  clear hK K
  try simp only [Act.put, List.getElem_toArray, List.getElem_cons_succ, List.getElem_cons_zero, List.setIfInBounds_toArray, List.set_cons_zero, List.set_cons_succ]
  refine wpAnyH_ready (rs := [11]) (by kernel_rfl) (by simp) ?_
  refine AllReadyH.cons rfl (fun K hK => ?_) AllReadyH.nil
  (go_simp; go_at_call 29; (with_reducible refine (R2.out _ KA2).mono ?_); rintro e q2 ⟨v2, rfl, ⟨sb, sd, rfl, hrb⟩, hb⟩; have HB := Lib.hid hrb; have HA := Lib.hid ((HA.out.below hb).mono fun g hg => Nat.lt_of_lt_of_le hg hb.size); have KB2 : SJ w la ln lc q2 := SJ.go KA2 hb; have CS := Lib.hid (SA.out L2 q2 sa sb sc sd HA.out HB.out); clear hb hrb)
  refine hK.out _ _ ?bhS11 (fun hHeld => ?brest11)
  case bhS11 => (with_reducible assumption)
  clear hK K
  try simp only [Act.put, List.getElem_toArray, List.getElem_cons_succ, List.getElem_cons_zero, List.setIfInBounds_toArray, List.set_cons_zero, List.set_cons_succ]
  refine wpAnyH_ready (rs := [12]) (by kernel_rfl) (by simp) ?_
  refine AllReadyH.cons rfl (fun K hK => ?_) AllReadyH.nil
  (go_simp; go_at_call 22; (with_reducible refine CS.out.mono ?_); rintro e z2 ⟨rfl, hz⟩; have K2 : SJ w la ln lc z2 := SJ.go KB2 hz; clear hz CS)
  refine hK.out _ _ ?bhS12 (fun hHeld => ?brest12)
  case bhS12 => (with_reducible assumption)
  clear hK K
  try simp only [Act.put, List.getElem_toArray, List.getElem_cons_succ, List.getElem_cons_zero, List.setIfInBounds_toArray, List.set_cons_zero, List.set_cons_succ]
  refine wpAnyH_take (i := 13) (v := ?bvv13) rfl (by kernel_rfl) (by kernel_rfl) (by kernel_rfl) (fun _ _ _ h => h) (Or.inl ⟨by rfl, ?bhy13⟩) (by assumption) ?brest13
  case bhy13 =>
    intro u hSu
    obtain ⟨s0, s1, s2⟩ := hSu
    go_simp
    try with_reducible rfl
  try simp only [Act.put, List.getElem_toArray, List.getElem_cons_succ, List.getElem_cons_zero, List.setIfInBounds_toArray, List.set_cons_zero, List.set_cons_succ]
  refine wpAnyH_take (i := 14) (v := ?bvv14) rfl (by kernel_rfl) (by kernel_rfl) (by kernel_rfl) (fun _ _ _ h => h) (Or.inl ⟨by rfl, ?bhy14⟩) (by assumption) ?brest14
  case bhy14 =>
    intro u hSu
    obtain ⟨s0, s1, s2⟩ := hSu
    go_simp
    try with_reducible rfl
  try simp only [Act.put, List.getElem_toArray, List.getElem_cons_succ, List.getElem_cons_zero, List.setIfInBounds_toArray, List.set_cons_zero, List.set_cons_succ]
  refine wpAnyH_take (i := 15) (v := ?cvv15) rfl (by kernel_rfl) (by kernel_rfl) (by kernel_rfl) (fun _ _ _ h => h) (Or.inl ⟨by rfl, ?chy15⟩) (by assumption) ?crest15
  case chy15 =>
    intro u hSu
    obtain ⟨s0, s1, s2⟩ := hSu
    go_simp
    try with_reducible rfl
  try simp only [Act.put, List.getElem_toArray, List.getElem_cons_succ, List.getElem_cons_zero, List.setIfInBounds_toArray, List.set_cons_zero, List.set_cons_succ]
  refine wpAnyH_take (i := 16) (v := ?cvv16) rfl (by kernel_rfl) (by kernel_rfl) (by kernel_rfl) (fun _ _ _ h => h) (Or.inl ⟨by rfl, ?chy16⟩) (by assumption) ?crest16
  case chy16 =>
    intro u hSu
    obtain ⟨s0, s1, s2⟩ := hSu
    go_simp
    try with_reducible rfl
  try simp only [Act.put, List.getElem_toArray, List.getElem_cons_succ, List.getElem_cons_zero, List.setIfInBounds_toArray, List.set_cons_zero, List.set_cons_succ]
  refine wpAnyH_take (i := 18) (v := ?cvv18) rfl (by kernel_rfl) (by kernel_rfl) (by kernel_rfl) (fun _ _ _ h => h) (Or.inl ⟨by rfl, ?chy18⟩) (by assumption) ?crest18
  case chy18 =>
    intro u hSu
    obtain ⟨s0, s1, s2⟩ := hSu
    go_simp
    try with_reducible rfl
  try simp only [Act.put, List.getElem_toArray, List.getElem_cons_succ, List.getElem_cons_zero, List.setIfInBounds_toArray, List.set_cons_zero, List.set_cons_succ]
  refine wpAnyH_take (i := 19) (v := ?cvv19) rfl (by kernel_rfl) (by kernel_rfl) (by kernel_rfl) (fun _ _ _ h => h) (Or.inl ⟨by rfl, ?chy19⟩) (by assumption) ?crest19
  case chy19 =>
    intro u hSu
    obtain ⟨s0, s1, s2⟩ := hSu
    go_simp
    try with_reducible rfl
  try simp only [Act.put, List.getElem_toArray, List.getElem_cons_succ, List.getElem_cons_zero, List.setIfInBounds_toArray, List.set_cons_zero, List.set_cons_succ]
  refine wpAnyH_ready (rs := [17]) (by kernel_rfl) (by simp) ?_
  refine AllReadyH.cons rfl (fun K hK => ?_) AllReadyH.nil
  (go_simp; go_at_call 19; (with_reducible refine (P3.out _ K2).mono ?_); rintro e p3 ⟨v1, rfl, ⟨sa, sc, rfl, hra⟩, hb⟩; have HA := Lib.hid hra; have KA3 : SJ w la ln lc p3 := SJ.go K2 hb; clear hb hra)
  refine hK.out _ _ ?chS17 (fun hHeld => ?crest17)
  case chS17 => (with_reducible assumption)
  clear hK K
  try simp only [Act.put, List.getElem_toArray, List.getElem_cons_succ, List.getElem_cons_zero, List.setIfInBounds_toArray, List.set_cons_zero, List.set_cons_succ]
  refine wpAnyH_ready (rs := [20]) (by kernel_rfl) (by simp) ?_
  refine AllReadyH.cons rfl (fun K hK => ?_) AllReadyH.nil
  (go_simp; go_at_call 30; (with_reducible refine (R3.out _ KA3).mono ?_); rintro e q3 ⟨v2, rfl, ⟨sb, sd, rfl, hrb⟩, hb⟩; have HB := Lib.hid hrb; have HA := Lib.hid ((HA.out.below hb).mono fun g hg => Nat.lt_of_lt_of_le hg hb.size); have KB3 : SJ w la ln lc q3 := SJ.go KA3 hb; have CS := Lib.hid (SA.out L3 q3 sa sb sc sd HA.out HB.out); clear hb hrb)
  refine hK.out _ _ ?chS20 (fun hHeld => ?crest20)
  case chS20 => (with_reducible assumption)
  clear hK K
  try simp only [Act.put, List.getElem_toArray, List.getElem_cons_succ, List.getElem_cons_zero, List.setIfInBounds_toArray, List.set_cons_zero, List.set_cons_succ]
  refine wpAnyH_ready (rs := [21]) (by kernel_rfl) (by simp) ?_
  refine AllReadyH.cons rfl (fun K hK => ?_) AllReadyH.nil
  (go_simp; go_at_call 22; (with_reducible refine CS.out.mono ?_); rintro e z3 ⟨rfl, hz⟩; have K3 : SJ w la ln lc z3 := SJ.go KB3 hz; clear hz CS)
  refine hK.out _ _ ?chS21 (fun hHeld => ?crest21)
  case chS21 => (with_reducible assumption)
  clear hK K
  try simp only [Act.put, List.getElem_toArray, List.getElem_cons_succ, List.getElem_cons_zero, List.setIfInBounds_toArray, List.set_cons_zero, List.set_cons_succ]
  refine wpAnyH_take (i := 22) (v := ?cvv22) rfl (by kernel_rfl) (by kernel_rfl) (by kernel_rfl) (fun _ _ _ h => h) (Or.inl ⟨by rfl, ?chy22⟩) (by assumption) ?crest22
  case chy22 =>
    intro u hSu
    obtain ⟨s0, s1, s2⟩ := hSu
    go_simp
    try with_reducible rfl
  try simp only [Act.put, List.getElem_toArray, List.getElem_cons_succ, List.getElem_cons_zero, List.setIfInBounds_toArray, List.set_cons_zero, List.set_cons_succ]
  refine wpAnyH_take (i := 23) (v := ?cvv23) rfl (by kernel_rfl) (by kernel_rfl) (by kernel_rfl) (fun _ _ _ h => h) (Or.inl ⟨by rfl, ?chy23⟩) (by assumption) ?crest23
  case chy23 =>
    intro u hSu
    obtain ⟨s0, s1, s2⟩ := hSu
    go_simp
    try with_reducible rfl
  try simp only [Act.put, List.getElem_toArray, List.getElem_cons_succ, List.getElem_cons_zero, List.setIfInBounds_toArray, List.set_cons_zero, List.set_cons_succ]
  have hbb4 : (b4 == b4) = true := by simp
  refine wpAnyH_take (i := 24) (v := ?dvv24) rfl (by kernel_rfl) (by kernel_rfl) (by kernel_rfl) (fun _ _ _ h => h) (Or.inl ⟨by rfl, ?dhy24⟩) (by assumption) ?drest24
  case dhy24 =>
    intro u hSu
    obtain ⟨s0, s1, s2⟩ := hSu
    go_simp
    try with_reducible rfl
  try simp only [Act.put, List.getElem_toArray, List.getElem_cons_succ, List.getElem_cons_zero, List.setIfInBounds_toArray, List.set_cons_zero, List.set_cons_succ]
  refine wpAnyH_take (i := 25) (v := ?dvv25) rfl (by kernel_rfl) (by kernel_rfl) (by kernel_rfl) (fun _ _ _ h => h) (Or.inl ⟨by rfl, ?dhy25⟩) (by assumption) ?drest25
  case dhy25 =>
    intro u hSu
    obtain ⟨s0, s1, s2⟩ := hSu
    go_simp
    try with_reducible rfl
  try simp only [Act.put, List.getElem_toArray, List.getElem_cons_succ, List.getElem_cons_zero, List.setIfInBounds_toArray, List.set_cons_zero, List.set_cons_succ]
  refine wpAnyH_take (i := 27) (v := ?dvv27) rfl (by kernel_rfl) (by kernel_rfl) (by kernel_rfl) (fun _ _ _ h => h) (Or.inl ⟨by rfl, ?dhy27⟩) (by assumption) ?drest27
  case dhy27 =>
    intro u hSu
    obtain ⟨s0, s1, s2⟩ := hSu
    go_simp
    try with_reducible rfl
  try simp only [Act.put, List.getElem_toArray, List.getElem_cons_succ, List.getElem_cons_zero, List.setIfInBounds_toArray, List.set_cons_zero, List.set_cons_succ]
  refine wpAnyH_take (i := 28) (v := ?dvv28) rfl (by kernel_rfl) (by kernel_rfl) (by kernel_rfl) (fun _ _ _ h => h) (Or.inl ⟨by rfl, ?dhy28⟩) (by assumption) ?drest28
  case dhy28 =>
    intro u hSu
    obtain ⟨s0, s1, s2⟩ := hSu
    go_simp
    try with_reducible rfl
  try simp only [Act.put, List.getElem_toArray, List.getElem_cons_succ, List.getElem_cons_zero, List.setIfInBounds_toArray, List.set_cons_zero, List.set_cons_succ]
  refine wpAnyH_ready (rs := [26]) (by kernel_rfl) (by simp) ?_
  refine AllReadyH.cons rfl (fun K hK => ?_) AllReadyH.nil
  (go_simp; go_at_call 17; (with_reducible refine (P4.out _ K3).mono ?_); rintro e p4 ⟨rfl, hb⟩; have KA4 : SJ w la ln lc p4 := SJ.go K3 hb; clear hb)
  refine hK.out _ _ ?dhS26 (fun hHeld => ?drest26)
  case dhS26 => (with_reducible assumption)
  clear hK K
  try simp only [Act.put, List.getElem_toArray, List.getElem_cons_succ, List.getElem_cons_zero, List.setIfInBounds_toArray, List.set_cons_zero, List.set_cons_succ]
  refine wpAnyH_ready (rs := [29]) (by kernel_rfl) (by simp) ?_
  refine AllReadyH.cons rfl (fun K hK => ?_) AllReadyH.nil
  (go_simp; go_at_call 31; (with_reducible refine (R4.out _ KA4).mono ?_); rintro e z4 ⟨rfl, hb⟩; have K4 : SJ w la ln lc z4 := SJ.go KA4 hb; clear hb)
  refine hK.out _ _ ?dhS29 (fun hHeld => ?drest29)
  case dhS29 => (with_reducible assumption)
  clear hK K
  try simp only [Act.put, List.getElem_toArray, List.getElem_cons_succ, List.getElem_cons_zero, List.setIfInBounds_toArray, List.set_cons_zero, List.set_cons_succ]
  refine wpAnyH_take (i := 30) (v := ?dvv30) rfl (by kernel_rfl) (by kernel_rfl) (by kernel_rfl) (fun _ _ _ h => h) (Or.inl ⟨by rfl, ?dhy30⟩) (by assumption) ?drest30
  case dhy30 =>
    intro u hSu
    obtain ⟨s0, s1, s2⟩ := hSu
    go_simp
    try with_reducible rfl
  try simp only [Act.put, List.getElem_toArray, List.getElem_cons_succ, List.getElem_cons_zero, List.setIfInBounds_toArray, List.set_cons_zero, List.set_cons_succ]
  refine wpAnyH_take (i := 31) (v := ?dvv31) rfl (by kernel_rfl) (by kernel_rfl) (by kernel_rfl) (fun _ _ _ h => h) (Or.inl ⟨by rfl, ?dhy31⟩) (by assumption) ?drest31
  case dhy31 =>
    intro u hSu
    obtain ⟨s0, s1, s2⟩ := hSu
    go_simp
    try with_reducible rfl
  try simp only [Act.put, List.getElem_toArray, List.getElem_cons_succ, List.getElem_cons_zero, List.setIfInBounds_toArray, List.set_cons_zero, List.set_cons_succ]
  refine wpAnyH_take (i := 32) (v := ?dvv32) rfl (by kernel_rfl) (by kernel_rfl) (by kernel_rfl) (fun _ _ _ h => h) (Or.inl ⟨by rfl, ?dhy32⟩) (by assumption) ?drest32
  case dhy32 =>
    intro u hSu
    obtain ⟨s0, s1, s2⟩ := hSu
    go_simp
    try with_reducible rfl
  try simp only [Act.put, List.getElem_toArray, List.getElem_cons_succ, List.getElem_cons_zero, List.setIfInBounds_toArray, List.set_cons_zero, List.set_cons_succ]
  have hbb5 : (b5 == b5) = true := by simp
  refine wpAnyH_take (i := 33) (v := ?evv33) rfl (by kernel_rfl) (by kernel_rfl) (by kernel_rfl) (fun _ _ _ h => h) (Or.inl ⟨by rfl, ?ehy33⟩) (by assumption) ?erest33
  case ehy33 =>
    intro u hSu
    obtain ⟨s0, s1, s2⟩ := hSu
    go_simp
    try with_reducible rfl
  try simp only [Act.put, List.getElem_toArray, List.getElem_cons_succ, List.getElem_cons_zero, List.setIfInBounds_toArray, List.set_cons_zero, List.set_cons_succ]
  refine wpAnyH_take (i := 34) (v := ?evv34) rfl (by kernel_rfl) (by kernel_rfl) (by kernel_rfl) (fun _ _ _ h => h) (Or.inl ⟨by rfl, ?ehy34⟩) (by assumption) ?erest34
  case ehy34 =>
    intro u hSu
    obtain ⟨s0, s1, s2⟩ := hSu
    go_simp
    try with_reducible rfl
  try simp only [Act.put, List.getElem_toArray, List.getElem_cons_succ, List.getElem_cons_zero, List.setIfInBounds_toArray, List.set_cons_zero, List.set_cons_succ]
  refine wpAnyH_take (i := 35) (v := ?evv35) rfl (by kernel_rfl) (by kernel_rfl) (by kernel_rfl) (fun _ _ _ h => h) (Or.inl ⟨by rfl, ?ehy35⟩) (by assumption) ?erest35
  case ehy35 =>
    intro u hSu
    obtain ⟨s0, s1, s2⟩ := hSu
    go_simp
    try with_reducible rfl
  try simp only [Act.put, List.getElem_toArray, List.getElem_cons_succ, List.getElem_cons_zero, List.setIfInBounds_toArray, List.set_cons_zero, List.set_cons_succ]
  refine wpAnyH_take (i := 37) (v := ?evv37) rfl (by kernel_rfl) (by kernel_rfl) (by kernel_rfl) (fun _ _ _ h => h) (Or.inl ⟨by rfl, ?ehy37⟩) (by assumption) ?erest37
  case ehy37 =>
    intro u hSu
    obtain ⟨s0, s1, s2⟩ := hSu
    go_simp
    try with_reducible rfl
  try simp only [Act.put, List.getElem_toArray, List.getElem_cons_succ, List.getElem_cons_zero, List.setIfInBounds_toArray, List.set_cons_zero, List.set_cons_succ]
  refine wpAnyH_take (i := 38) (v := ?evv38) rfl (by kernel_rfl) (by kernel_rfl) (by kernel_rfl) (fun _ _ _ h => h) (Or.inl ⟨by rfl, ?ehy38⟩) (by assumption) ?erest38
  case ehy38 =>
    intro u hSu
    obtain ⟨s0, s1, s2⟩ := hSu
    go_simp
    try with_reducible rfl
  try simp only [Act.put, List.getElem_toArray, List.getElem_cons_succ, List.getElem_cons_zero, List.setIfInBounds_toArray, List.set_cons_zero, List.set_cons_succ]
  refine wpAnyH_take (i := 39) (v := ?evv39) rfl (by kernel_rfl) (by kernel_rfl) (by kernel_rfl) (fun _ _ _ h => h) (Or.inl ⟨by rfl, ?ehy39⟩) (by assumption) ?erest39
  case ehy39 =>
    intro u hSu
    obtain ⟨s0, s1, s2⟩ := hSu
    go_simp
    try with_reducible rfl
  try simp only [Act.put, List.getElem_toArray, List.getElem_cons_succ, List.getElem_cons_zero, List.setIfInBounds_toArray, List.set_cons_zero, List.set_cons_succ]
  refine wpAnyH_ready (rs := [36]) (by kernel_rfl) (by simp) ?_
  refine AllReadyH.cons rfl (fun K hK => ?_) AllReadyH.nil
  (go_simp; go_at_call 20; (with_reducible refine (P5.out _ K4).mono ?_); rintro e p5 ⟨rfl, hb⟩; have KA5 : SJ w la ln lc p5 := SJ.go K4 hb; clear hb)
  refine hK.out _ _ ?ehS36 (fun hHeld => ?erest36)
  case ehS36 => (with_reducible assumption)
  clear hK K
  try simp only [Act.put, List.getElem_toArray, List.getElem_cons_succ, List.getElem_cons_zero, List.setIfInBounds_toArray, List.set_cons_zero, List.set_cons_succ]
  refine wpAnyH_ready (rs := [40]) (by kernel_rfl) (by simp) ?_
  refine AllReadyH.cons rfl (fun K hK => ?_) AllReadyH.nil
  (go_simp; go_at_call 32; (with_reducible refine (R5.out _ KA5).mono ?_); rintro e z5 ⟨rfl, hb⟩; have K5 : SJ w la ln lc z5 := SJ.go KA5 hb; clear hb)
  refine hK.out _ _ ?ehS40 (fun hHeld => ?erest40)
  case ehS40 => (with_reducible assumption)
  clear hK K
  try simp only [Act.put, List.getElem_toArray, List.getElem_cons_succ, List.getElem_cons_zero, List.setIfInBounds_toArray, List.set_cons_zero, List.set_cons_succ]
  refine wpAnyH_take (i := 41) (v := ?evv41) rfl (by kernel_rfl) (by kernel_rfl) (by kernel_rfl) (fun _ _ _ h => h) (Or.inl ⟨by rfl, ?ehy41⟩) (by assumption) ?erest41
  case ehy41 =>
    intro u hSu
    obtain ⟨s0, s1, s2⟩ := hSu
    go_simp
    try with_reducible rfl
  try simp only [Act.put, List.getElem_toArray, List.getElem_cons_succ, List.getElem_cons_zero, List.setIfInBounds_toArray, List.set_cons_zero, List.set_cons_succ]
  refine wpAnyH_take (i := 42) (v := ?evv42) rfl (by kernel_rfl) (by kernel_rfl) (by kernel_rfl) (fun _ _ _ h => h) (Or.inl ⟨by rfl, ?ehy42⟩) (by assumption) ?erest42
  case ehy42 =>
    intro u hSu
    obtain ⟨s0, s1, s2⟩ := hSu
    go_simp
    try with_reducible rfl
  try simp only [Act.put, List.getElem_toArray, List.getElem_cons_succ, List.getElem_cons_zero, List.setIfInBounds_toArray, List.set_cons_zero, List.set_cons_succ]
  refine wpAnyH_take (i := 43) (v := ?evv43) rfl (by kernel_rfl) (by kernel_rfl) (by kernel_rfl) (fun _ _ _ h => h) (Or.inl ⟨by rfl, ?ehy43⟩) (by assumption) ?erest43
  case ehy43 =>
    intro u hSu
    obtain ⟨s0, s1, s2⟩ := hSu
    go_simp
    try with_reducible rfl
  try simp only [Act.put, List.getElem_toArray, List.getElem_cons_succ, List.getElem_cons_zero, List.setIfInBounds_toArray, List.set_cons_zero, List.set_cons_succ]
  have hbb6 : (b6 == b6) = true := by simp
  refine wpAnyH_take (i := 44) (v := ?fvv44) rfl (by kernel_rfl) (by kernel_rfl) (by kernel_rfl) (fun _ _ _ h => h) (Or.inl ⟨by rfl, ?fhy44⟩) (by assumption) ?frest44
  case fhy44 =>
    intro u hSu
    obtain ⟨s0, s1, s2⟩ := hSu
    go_simp
    try with_reducible rfl
  try simp only [Act.put, List.getElem_toArray, List.getElem_cons_succ, List.getElem_cons_zero, List.setIfInBounds_toArray, List.set_cons_zero, List.set_cons_succ]
  refine wpAnyH_take (i := 45) (v := ?fvv45) rfl (by kernel_rfl) (by kernel_rfl) (by kernel_rfl) (fun _ _ _ h => h) (Or.inl ⟨by rfl, ?fhy45⟩) (by assumption) ?frest45
  case fhy45 =>
    intro u hSu
    obtain ⟨s0, s1, s2⟩ := hSu
    go_simp
    try with_reducible rfl
  try simp only [Act.put, List.getElem_toArray, List.getElem_cons_succ, List.getElem_cons_zero, List.setIfInBounds_toArray, List.set_cons_zero, List.set_cons_succ]
  refine wpAnyH_take (i := 46) (v := ?fvv46) rfl (by kernel_rfl) (by kernel_rfl) (by kernel_rfl) (fun _ _ _ h => h) (Or.inl ⟨by rfl, ?fhy46⟩) (by assumption) ?frest46
  case fhy46 =>
    intro u hSu
    obtain ⟨s0, s1, s2⟩ := hSu
    go_simp
    try with_reducible rfl
  try simp only [Act.put, List.getElem_toArray, List.getElem_cons_succ, List.getElem_cons_zero, List.setIfInBounds_toArray, List.set_cons_zero, List.set_cons_succ]
  refine wpAnyH_take (i := 48) (v := ?fvv48) rfl (by kernel_rfl) (by kernel_rfl) (by kernel_rfl) (fun _ _ _ h => h) (Or.inl ⟨by rfl, ?fhy48⟩) (by assumption) ?frest48
  case fhy48 =>
    intro u hSu
    obtain ⟨s0, s1, s2⟩ := hSu
    go_simp
    try with_reducible rfl
  try simp only [Act.put, List.getElem_toArray, List.getElem_cons_succ, List.getElem_cons_zero, List.setIfInBounds_toArray, List.set_cons_zero, List.set_cons_succ]
  refine wpAnyH_take (i := 49) (v := ?fvv49) rfl (by kernel_rfl) (by kernel_rfl) (by kernel_rfl) (fun _ _ _ h => h) (Or.inl ⟨by rfl, ?fhy49⟩) (by assumption) ?frest49
  case fhy49 =>
    intro u hSu
    obtain ⟨s0, s1, s2⟩ := hSu
    go_simp
    try with_reducible rfl
  try simp only [Act.put, List.getElem_toArray, List.getElem_cons_succ, List.getElem_cons_zero, List.setIfInBounds_toArray, List.set_cons_zero, List.set_cons_succ]
  refine wpAnyH_take (i := 50) (v := ?fvv50) rfl (by kernel_rfl) (by kernel_rfl) (by kernel_rfl) (fun _ _ _ h => h) (Or.inl ⟨by rfl, ?fhy50⟩) (by assumption) ?frest50
  case fhy50 =>
    intro u hSu
    obtain ⟨s0, s1, s2⟩ := hSu
    go_simp
    try with_reducible rfl
  try simp only [Act.put, List.getElem_toArray, List.getElem_cons_succ, List.getElem_cons_zero, List.setIfInBounds_toArray, List.set_cons_zero, List.set_cons_succ]
  refine wpAnyH_ready (rs := [47]) (by kernel_rfl) (by simp) ?_
  refine AllReadyH.cons rfl (fun K hK => ?_) AllReadyH.nil
  (go_simp; go_at_call 20; (with_reducible refine (P6.out _ K5).mono ?_); rintro e p6 ⟨rfl, hb⟩; have KA6 : SJ w la ln lc p6 := SJ.go K5 hb; clear hb)
  refine hK.out _ _ ?fhS47 (fun hHeld => ?frest47)
  case fhS47 => (with_reducible assumption)
  clear hK K
  try simp only [Act.put, List.getElem_toArray, List.getElem_cons_succ, List.getElem_cons_zero, List.setIfInBounds_toArray, List.set_cons_zero, List.set_cons_succ]
  refine wpAnyH_ready (rs := [51]) (by kernel_rfl) (by simp) ?_
  refine AllReadyH.cons rfl (fun K hK => ?_) AllReadyH.nil
  (go_simp; go_at_call 32; (with_reducible refine (R6.out _ KA6).mono ?_); rintro e z6 ⟨rfl, hb⟩; have K6 : SJ w la ln lc z6 := SJ.go KA6 hb; clear hb)
  refine hK.out _ _ ?fhS51 (fun hHeld => ?frest51)
  case fhS51 => (with_reducible assumption)
  clear hK K
  try simp only [Act.put, List.getElem_toArray, List.getElem_cons_succ, List.getElem_cons_zero, List.setIfInBounds_toArray, List.set_cons_zero, List.set_cons_succ]
  refine wpAnyH_take (i := 52) (v := ?fvv52) rfl (by kernel_rfl) (by kernel_rfl) (by kernel_rfl) (fun _ _ _ h => h) (Or.inl ⟨by rfl, ?fhy52⟩) (by assumption) ?frest52
  case fhy52 =>
    intro u hSu
    obtain ⟨s0, s1, s2⟩ := hSu
    go_simp
    try with_reducible rfl
  try simp only [Act.put, List.getElem_toArray, List.getElem_cons_succ, List.getElem_cons_zero, List.setIfInBounds_toArray, List.set_cons_zero, List.set_cons_succ]
  refine wpAnyH_take (i := 53) (v := ?fvv53) rfl (by kernel_rfl) (by kernel_rfl) (by kernel_rfl) (fun _ _ _ h => h) (Or.inl ⟨by rfl, ?fhy53⟩) (by assumption) ?frest53
  case fhy53 =>
    intro u hSu
    obtain ⟨s0, s1, s2⟩ := hSu
    go_simp
    try with_reducible rfl
  try simp only [Act.put, List.getElem_toArray, List.getElem_cons_succ, List.getElem_cons_zero, List.setIfInBounds_toArray, List.set_cons_zero, List.set_cons_succ]
  refine wpAnyH_take (i := 54) (v := ?fvv54) rfl (by kernel_rfl) (by kernel_rfl) (by kernel_rfl) (fun _ _ _ h => h) (Or.inl ⟨by rfl, ?fhy54⟩) (by assumption) ?frest54
  case fhy54 =>
    intro u hSu
    obtain ⟨s0, s1, s2⟩ := hSu
    go_simp
    try with_reducible rfl
  try simp only [Act.put, List.getElem_toArray, List.getElem_cons_succ, List.getElem_cons_zero, List.setIfInBounds_toArray, List.set_cons_zero, List.set_cons_succ]
  refine wpAnyH_done (by kernel_rfl) ?_ _
  go_wp2_with fail
  go_ret
  exact ⟨rfl, K6.2.1⟩
end
end Go.Proofs.Ytijcojidfallkaa.GL
