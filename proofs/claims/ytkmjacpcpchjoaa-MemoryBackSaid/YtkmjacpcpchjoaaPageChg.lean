/-
  An owner's pages turned, one behind the other. Nothing here is a statement of the seed.
-/
import Derived.Test.YtkmjacpcpchjoaaPageClo
import Derived.Deep.RegionHeld3
set_option linter.unusedSimpArgs false
set_option linter.unusedVariables false
namespace Go.Proofs.Ytkmjacpcpchjoaa.PF
open Go.RowKit PM PR

theorem upto_at {c : Pg → Bool} {F : Nat → Pg → Pg} {l : List Pg} {k : Nat} (hk : k < l.length) : (updQ (fun j => decide (j < k)) c F l).getD k zero = l.getD k zero := by
  rw [updQ_at hk]; simp
theorem upto_no {c : Pg → Bool} {F : Nat → Pg → Pg} {l : List Pg} {k : Nat} (hk : k < l.length) (hc : c (l.getD k zero) = false) : updQ (fun j => decide (j < k + 1)) c F l = updQ (fun j => decide (j < k)) c F l := by
  refine updQ_same fun j hj hcj => ⟨?_, rfl⟩
  by_cases e : j = k
  · subst e; rw [hc] at hcj; cases hcj
  · simp; omega
theorem upto_yes {c : Pg → Bool} {F : Nat → Pg → Pg} {l : List Pg} {k : Nat} (hk : k < l.length) (hc : c (l.getD k zero) = true) : (updQ (fun j => decide (j < k)) c F l).set k (F (rank c l k) (l.getD k zero)) = updQ (fun j => decide (j < k + 1)) c F l := by
  refine updQ_set hk hc fun j hj hcj => ?_
  by_cases e : k = j
  · subst e; simp
  · simp [e]; omega
theorem upto_end {c : Pg → Bool} {F : Nat → Pg → Pg} {l : List Pg} : updQ (fun j => decide (j < l.length)) c F l = upd c F l :=
  updQ_same fun j hj _ => ⟨by simp [hj], rfl⟩
theorem bd_iff {B : Nat} {a w : World} : Below B a w.drew ↔ Below B a w := ⟨fun h => ⟨h.os, h.tape, h.output, h.size, h.block⟩, fun h => h.drew⟩
theorem fr_iff {S : Nat → Prop} {a w : World} : Fr S a w.drew ↔ Fr S a w := ⟨fun h => ⟨h.os, h.tape, h.output, h.size, h.block⟩, fun h => h.drew⟩
/-- what a round of change finds -/
theorem chg_round {p g gs n k : Nat} {l : List Pg} {o a b : Int} {v : Value} {F : Nat → Pg → Pg} {S : Nat → Prop} {cc : Pg → Bool} {w w1 wr : World} (hlt : k < n) (HN : Hid (l.length = n)) (HT : Hid (Tb w p g l)) (HV : Hid (Sts w v gs a b))
    (HOB : Hid (Whole w1 w.heap.size 38 #[.int .u16 o])) (HSp : Hid (¬ S p)) (HSg : Hid (¬ S g)) (HSs : Hid (¬ S gs)) (HL : Hid (∀ i, S i → i < w.heap.size)) (hbw : Below w.heap.size w w1) (hfr : Fr (fun i => i = g ∨ S i) w1 wr)
    (hrow : Hid (Row wr g (updQ (fun j => decide (j < k)) cc F l))) :
    ∃ st ex wr' ow ep, Hid (l.getD k zero = ⟨st, ex, wr', ow, ep⟩) ∧ wr.cell? ⟨g, k * 5, none⟩ = some (.int .u8 st) ∧ wr.cell? ⟨g, k * 5 + 1, none⟩ = some (.bool ex) ∧ wr.cell? ⟨g, k * 5 + 2, none⟩ = some (.bool wr') ∧ wr.cell? ⟨g, k * 5 + 3, none⟩ = some (.int .u16 ow) ∧
      wr.cell? ⟨g, k * 5 + 4, none⟩ = some (.int .u64 ep) ∧ wr.cell? ⟨p, 0, none⟩ = w.cell? ⟨p, 0, none⟩ ∧ Hid (Whole wr w.heap.size 38 #[.int .u16 o]) ∧ Hid (Sts wr v gs a b) ∧ p < wr.heap.size ∧ g < wr.heap.size ∧ (0 : Int) ≤ k ∧ (k : Int) < n := by
  have hkl : k < l.length := by rw [HN.out]; exact hlt
  obtain ⟨c0, c1, c2, c3, c4⟩ := hrow.out.five (k := k) (by rw [updQ_len]; exact hkl) (upto_at hkl)
  obtain ⟨glt, plt, hpg⟩ := HT.out.lt
  have h1 := hbw.size
  have h2 := hfr.size
  have slt := HV.out.lt
  have hgs := HV.out.ne_ (HT.out.row.choose_spec) (by decide)
  refine ⟨_, _, _, _, _, Lib.hid rfl, c0, c1, c2, c3, c4, ?_, Lib.hid (HOB.out.fr hfr ?_), Lib.hid ((HV.out.belowS hbw).fr hfr ?_), by omega, by omega, by omega, by omega⟩
  · have e1 := hbw.block p plt
    have e2 := hfr.block p (by omega) (fun h => h.elim hpg HSp.out)
    exact World.cell?_of_block (e2.trans e1)
  · rintro (h | h)
    · omega
    · have := HL.out _ h; omega
  · rintro (h | h)
    · exact hgs h.symm
    · exact HSs.out h
/-- a page that stays -/
theorem chg_no {g n k r : Nat} {l : List Pg} {cc : Pg → Bool} {F : Nat → Pg → Pg} {St : World → Nat → Prop} {S : Nat → Prop} {w1 wr w2 : World} (hlt : k < n) (HN : Hid (l.length = n)) (HR : Hid (rank cc l k = r)) (hc : cc (l.getD k zero) = false)
    (HSt : Hid (∀ (u u' : World) (k : Nat), St u k → Fr (fun i => i = g) u u' → St u' k)) (hfr : Fr (fun i => i = g ∨ S i) w1 wr) (hrow : Hid (Row wr g (updQ (fun j => decide (j < k)) cc F l))) (hst : Hid (St wr r)) (hb : Below wr.heap.size wr w2) :
    Value.int .i64 (r : Int) = .int .i64 (rank cc l (k + 1) : Int) ∧ Fr (fun i => i = g ∨ S i) w1 w2 ∧ Hid (Row w2 g (updQ (fun j => decide (j < k + 1)) cc F l)) ∧ Hid (St w2 (rank cc l (k + 1))) := by
  have hkl : k < l.length := by rw [HN.out]; exact hlt
  have e : rank cc l (k + 1) = r := (rank_no hc).trans HR.out
  rw [e, upto_no hkl hc]
  exact ⟨rfl, hfr.then hb, Lib.hid (hrow.out.belowS hb), Lib.hid (HSt.out _ _ _ hst.out (Fr.of_below hb))⟩
/-- a page that turns -/
theorem chg_yes {g n k r : Nat} {l : List Pg} {cc : Pg → Bool} {F : Nat → Pg → Pg} {St : World → Nat → Prop} {S : Nat → Prop} {w1 wr w2 w3 : World} {q : Pg} (hlt : k < n) (HN : Hid (l.length = n)) (HR : Hid (rank cc l k = r)) (hq : Hid (l.getD k zero = q)) (hc : cc q = true)
    (HSt : Hid (∀ (u u' : World) (k : Nat), St u k → Fr (fun i => i = g) u u' → St u' k)) (HSg : Hid (¬ S g)) (hfr : Fr (fun i => i = g ∨ S i) w1 wr) (hrow : Hid (Row wr g (updQ (fun j => decide (j < k)) cc F l))) (hb : Fr S wr w2) (hst : Hid (St w2 (r + 1)))
    (h3 : w3 = put5 w2 g (k * 5) (F r q).st (F r q).ex (F r q).wr (F r q).ow (F r q).ep) :
    Value.int .i64 ((r : Int) + 1) = .int .i64 (rank cc l (k + 1) : Int) ∧ Fr (fun i => i = g ∨ S i) w1 w3 ∧ Hid (Row w3 g (updQ (fun j => decide (j < k + 1)) cc F l)) ∧ Hid (St w3 (rank cc l (k + 1))) := by
  have hkl : k < l.length := by rw [HN.out]; exact hlt
  have hc' : cc (l.getD k zero) = true := by rw [hq.out]; exact hc
  have e : rank cc l (k + 1) = r + 1 := by rw [rank_yes hc', HR.out]
  have hw : Fr (fun i => i = g) w2 w3 := by
    subst h3
    exact (Fr.refl (fun i => i = g) w2).put (Or.inl rfl) _ _ _ _ _ _
  rw [e, ← upto_yes hkl hc', HR.out, hq.out]
  refine ⟨by go_num, (hfr.trans hb fun i h => Or.inl (Or.inr h)).trans hw fun i h => Or.inl (Or.inl h), Lib.hid ?_, Lib.hid (HSt.out _ _ _ hst.out hw)⟩
  rw [h3]
  exact (hrow.out.fr hb HSg.out).put (by rw [updQ_len]; exact hkl) (F r q)
/-- what stays behind the closure's call -/
theorem chg_kept {p T B : Nat} {S : Nat → Prop} {w2 w3 wr : World} {st : Int} {ex wr' : Bool} {ow ep : Int} {v : Value} (HSp : Hid (¬ S p)) (HL : Hid (∀ i, S i → i < B)) (hT : B ≤ T) (hp2 : p < w2.heap.size) (hT2 : T < w2.heap.size) (h3 : Fr S w2 w3) (h2 : Fr S wr w2)
    (h : w2.cell? ⟨p, 0, none⟩ = some v ∧ w2.cell? ⟨T, 0, none⟩ = some (.int .u8 st) ∧ w2.cell? ⟨T, 1, none⟩ = some (.bool ex) ∧ w2.cell? ⟨T, 2, none⟩ = some (.bool wr') ∧ w2.cell? ⟨T, 3, none⟩ = some (.int .u16 ow) ∧ w2.cell? ⟨T, 4, none⟩ = some (.int .u64 ep)) :
    w3.cell? ⟨p, 0, none⟩ = some v ∧ w3.cell? ⟨T, 0, none⟩ = some (.int .u8 st) ∧ w3.cell? ⟨T, 1, none⟩ = some (.bool ex) ∧ w3.cell? ⟨T, 2, none⟩ = some (.bool wr') ∧ w3.cell? ⟨T, 3, none⟩ = some (.int .u16 ow) ∧ w3.cell? ⟨T, 4, none⟩ = some (.int .u64 ep) ∧ Fr S wr w3 := by
  obtain ⟨a, b0, b1, b2, b3, b4⟩ := h
  have hTn : ¬ S T := fun h => by have := HL.out T h; omega
  have e := fun o => World.cell?_of_block (a := ⟨T, o, none⟩) (h3.block T hT2 hTn)
  exact ⟨(World.cell?_of_block (a := ⟨p, 0, none⟩) (h3.block p hp2 HSp.out)).trans a, (e 0).trans b0, (e 1).trans b1, (e 2).trans b2, (e 3).trans b3, (e 4).trans b4, h2.trans h3 (fun i h => Or.inl h)⟩
theorem chg_lay {p T : Nat} {w2 wr : World} {st : Int} {ex wr' : Bool} {ow ep : Int} {v : Value} {t : TypeId} (hT : wr.heap.size = T) (hp : p < wr.heap.size) (cp : wr.cell? ⟨p, 0, none⟩ = some v)
    (hb1 : Below (wr.alloc (.cells #[.int .u8 st, .bool ex, .bool wr', .int .u16 ow, .int .u64 ep] t)).heap.size (wr.alloc (.cells #[.int .u8 st, .bool ex, .bool wr', .int .u16 ow, .int .u64 ep] t)) w2) :
    (w2.cell? ⟨p, 0, none⟩ = some v ∧ w2.cell? ⟨T, 0, none⟩ = some (.int .u8 st) ∧ w2.cell? ⟨T, 1, none⟩ = some (.bool ex) ∧ w2.cell? ⟨T, 2, none⟩ = some (.bool wr') ∧ w2.cell? ⟨T, 3, none⟩ = some (.int .u16 ow) ∧ w2.cell? ⟨T, 4, none⟩ = some (.int .u64 ep)) ∧ T < w2.heap.size ∧ p < w2.heap.size := by
  subst hT
  have hN := (Whole.new wr t #[.int .u8 st, .bool ex, .bool wr', .int .u16 ow, .int .u64 ep]).belowS hb1
  have h1 := (below_new wr (.cells #[.int .u8 st, .bool ex, .bool wr', .int .u16 ow, .int .u64 ep] t)).trans (hb1.mono (by simp))
  have := h1.size
  exact ⟨⟨(h1.cell (p := ⟨p, 0, none⟩) hp).trans cp, hN.cell 0, hN.cell 1, hN.cell 2, hN.cell 3, hN.cell 4⟩, hN.lt, by omega⟩
end Go.Proofs.Ytkmjacpcpchjoaa.PF
