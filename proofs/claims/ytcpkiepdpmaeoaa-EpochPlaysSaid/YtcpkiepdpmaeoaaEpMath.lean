/-
  Clocks, harts and what waits as numbers. Plain mathematics; nothing here is a statement of the seed.
-/
import Derived.Test.YtcpkiepdpmaeoaaObjA
set_option linter.unusedSimpArgs false
set_option linter.unusedVariables false
namespace Go.Proofs.Ytcpkiepdpmaeoaa.EM
open Go.RowKit
/-- an owner that waits for an epoch -/
structure Wt where
  ow : Int
  ep : Int
def w0 : Wt := ⟨0, 0⟩
/-- a hart as it lies -/
structure Hr where
  pc : Int
  r : Nat → Int
  sa : Option Addr
  sn : Nat
  sc : Nat
  why : Int
  ep : Int
  home : Int
def h0 : Hr := ⟨0, fun _ => 0, none, 0, 0, 0, 0, 0⟩
structure Ck where
  now : Int
  l : List Wt
def c0 : Ck := ⟨0, []⟩
/-- does a hart hinder the epoch? -/
def behB (h : Hr) (e : Int) : Bool := decide (h.why = 0) && decide (h.ep < e)
def pasB (hs : List Hr) (e : Int) : Bool := hs.all fun h => !behB h e
def lstS (q : Int × Bool) (h : Hr) : Int × Bool := if h.why = 0 ∧ (q.2 = false ∨ h.ep < q.1) then (h.ep, true) else q
def lstF (q : Int × Bool) (hs : List Hr) : Int × Bool := hs.foldl lstS q
def lstM (hs : List Hr) : Int × Bool := lstF (0, false) hs
def full (c : Ck) : Prop := 1099511627776 ≤ c.now
instance (c : Ck) : Decidable (full c) := by unfold full; infer_instance
def retC (c : Ck) (o : Int) : Ck := if full c then c else ⟨c.now + 1, c.l ++ [⟨o, c.now + 1⟩]⟩
def retV (c : Ck) : Int := if full c then 0 else c.now + 1
def retE (c : Ck) : Int := if full c then 7 else 0
def dueM (hs : List Hr) (l : List Wt) : List Int := (l.filter fun x => pasB hs x.ep).map Wt.ow
def lefM (hs : List Hr) (l : List Wt) : List Wt := l.filter fun x => !pasB hs x.ep
def takC (hs : List Hr) (c : Ck) : Ck := ⟨c.now, lefM hs c.l⟩
/-- a call -/
structure Ac where
  kind : Int
  ow : Int
  ha : Option Addr
  hn : Nat
  hc : Nat
  hs : List Hr
def ac0 : Ac := ⟨0, 0, none, 0, 0, []⟩
def actM (c : Ck) (x : Ac) : Ck := if x.kind % 4 = 2 then takC x.hs c else if x.kind % 4 = 3 then takC [] c else retC c x.ow
def runM (c : Ck) (l : List Ac) : Ck := l.foldl actM c
theorem pas_nil (e : Int) : pasB [] e = true := rfl
theorem pas_snoc (hs : List Hr) (h : Hr) (e : Int) : pasB (hs ++ [h]) e = (pasB hs e && !behB h e) := by simp [pasB]
theorem due_nil (l : List Wt) : dueM [] l = l.map Wt.ow := by
  unfold dueM
  have h : (l.filter fun x => pasB [] x.ep) = l := List.filter_eq_self.2 (fun x _ => pas_nil x.ep)
  rw [h]
theorem lef_nil (l : List Wt) : lefM [] l = [] := by
  unfold lefM
  exact List.filter_eq_nil_iff.2 (fun x _ => by rw [pas_nil]; simp)
theorem take_succ' {α : Type} {d : α} (l : List α) (k : Nat) (h : k < l.length) : l.take (k + 1) = l.take k ++ [l.getD k d] := by
  rw [List.take_add_one, List.getD_eq_getElem?_getD, List.getElem?_eq_getElem h]
  rfl
theorem pas_take (hs : List Hr) (e : Int) (k : Nat) (h : k < hs.length) : pasB (hs.take (k + 1)) e = (pasB (hs.take k) e && !behB (hs.getD k h0) e) := by
  rw [take_succ' (d := h0) hs k h, pas_snoc]
theorem pas_false {hs : List Hr} {e : Int} {k : Nat} (h : k < hs.length) (hb : behB (hs.getD k h0) e = true) : pasB hs e = false := by
  unfold pasB
  rw [List.all_eq_false]
  refine ⟨hs.getD k h0, ?_, by rw [hb]; decide⟩
  rw [List.getD_eq_getElem?_getD, List.getElem?_eq_getElem h]
  exact List.getElem_mem h
theorem lst_take (hs : List Hr) (q : Int × Bool) (k : Nat) (h : k < hs.length) : lstF q (hs.take (k + 1)) = lstS (lstF q (hs.take k)) (hs.getD k h0) := by
  rw [take_succ' (d := h0) hs k h]
  simp [lstF]
theorem due_snoc (hs : List Hr) (l : List Wt) (x : Wt) : dueM hs (l ++ [x]) = if pasB hs x.ep = true then dueM hs l ++ [x.ow] else dueM hs l := by
  unfold dueM
  rw [List.filter_append, List.map_append]
  by_cases h : pasB hs x.ep = true
  · rw [if_pos h]; simp [h]
  · rw [if_neg h]; simp [h]
theorem lef_snoc (hs : List Hr) (l : List Wt) (x : Wt) : lefM hs (l ++ [x]) = if pasB hs x.ep = true then lefM hs l else lefM hs l ++ [x] := by
  unfold lefM
  rw [List.filter_append]
  by_cases h : pasB hs x.ep = true
  · rw [if_pos h]; simp [h]
  · rw [if_neg h]; simp [h]
theorem due_len (hs : List Hr) (l : List Wt) : (dueM hs l).length ≤ l.length := by unfold dueM; rw [List.length_map]; exact List.length_filter_le _ _
theorem lef_len (hs : List Hr) (l : List Wt) : (lefM hs l).length ≤ l.length := List.length_filter_le _ _
/-- what the least epoch says of a passed one -/
theorem lst_pas_aux (e : Int) (he : 0 < e) : ∀ (hs : List Hr) (q : Int × Bool), ((lstF q hs).2 && decide ((lstF q hs).1 < e)) = ((q.2 && decide (q.1 < e)) || !pasB hs e)
  | [], q => by simp only [lstF, pasB, List.foldl_nil, List.all_nil, Bool.not_true, Bool.or_false]; rfl
  | h :: hs, q => by
    have ih := lst_pas_aux e he hs (lstS q h)
    have hp : pasB (h :: hs) e = (!behB h e && pasB hs e) := by simp [pasB]
    show ((lstF (lstS q h) hs).2 && decide ((lstF (lstS q h) hs).1 < e)) = _
    rw [ih, hp]
    unfold lstS behB
    obtain ⟨q1, q2⟩ := q
    by_cases h1 : h.why = 0
    · cases q2 with
      | false => simp [h1]
      | true =>
        by_cases h2 : h.ep < q1
        · by_cases h3 : h.ep < e
          · simp [h1, h2, h3]
          · have h4 : ¬ q1 < e := by omega
            simp [h1, h2, h3, h4]
        · by_cases h3 : h.ep < e
          · have h4 : q1 < e := by omega
            simp [h1, h2, h3, h4]
          · simp [h1, h2, h3]
    · simp [h1]
theorem pas_lst (hs : List Hr) (e : Int) (he : 0 < e) : pasB hs e = !((lstM hs).2 && decide ((lstM hs).1 < e)) := by
  have := lst_pas_aux e he hs (0, false)
  rw [show lstM hs = lstF (0, false) hs from rfl, this]
  simp
/-- what a run keeps: what waits rises, from 1 to now; few calls, few epochs -/
structure Gd (c : Ck) (n : Nat) : Prop where
  now : 0 ≤ c.now ∧ c.now ≤ n
  ln : c.l.length ≤ n
  up : c.l.Pairwise fun x y => x.ep < y.ep
  bd : ∀ x ∈ c.l, 1 ≤ x.ep ∧ x.ep ≤ c.now ∧ 0 ≤ x.ow ∧ x.ow ≤ 65535
theorem gd_zero : Gd c0 0 := ⟨by decide, Nat.le_refl _, List.Pairwise.nil, fun x hx => by cases hx⟩
theorem gd_mono {c : Ck} {n m : Nat} (h : Gd c n) (hm : n ≤ m) : Gd c m := ⟨by have := h.now; omega, by have := h.ln; omega, h.up, h.bd⟩
theorem gd_tak {c : Ck} {n : Nat} (h : Gd c n) (hs : List Hr) : Gd (takC hs c) n :=
  ⟨h.now, Nat.le_trans (lef_len hs c.l) h.ln, h.up.filter _, fun x hx => h.bd x (List.mem_filter.1 hx).1⟩
theorem gd_ret {c : Ck} {n : Nat} (h : Gd c n) {o : Int} (ho : 0 ≤ o ∧ o ≤ 65535) : Gd (retC c o) (n + 1) := by
  unfold retC
  split
  · exact gd_mono h (by omega)
  · have hn := h.now
    refine ⟨by simp only; omega, by have := h.ln; simp; omega, ?_, ?_⟩
    · rw [List.pairwise_append]
      refine ⟨h.up, by simp, fun x hx y hy => ?_⟩
      rw [List.mem_singleton.1 hy]
      have := (h.bd x hx).2.1
      simp only
      omega
    · intro x hx
      rcases List.mem_append.1 hx with hx | hx
      · have := h.bd x hx
        simp only
        omega
      · rw [List.mem_singleton.1 hx]
        simp only
        omega
theorem gd_act {c : Ck} {n : Nat} (h : Gd c n) (x : Ac) (ho : 0 ≤ x.ow ∧ x.ow ≤ 65535) : Gd (actM c x) (n + 1) := by
  unfold actM
  split
  · exact gd_mono (gd_tak h _) (by omega)
  · split
    · exact gd_mono (gd_tak h _) (by omega)
    · exact gd_ret h ho
theorem gd_run : ∀ (l : List Ac) {c : Ck} {n : Nat}, Gd c n → (∀ x ∈ l, 0 ≤ x.ow ∧ x.ow ≤ 65535) → Gd (runM c l) (n + l.length)
  | [], c, n, h, _ => h
  | x :: l, c, n, h, hl => by
    have := gd_run l (gd_act h x (hl x (List.mem_cons_self ..))) (fun y hy => hl y (List.mem_cons_of_mem _ hy))
    rw [List.length_cons, show n + (l.length + 1) = n + 1 + l.length by omega]
    exact this
theorem run_take (c : Ck) (l : List Ac) (k : Nat) (h : k < l.length) : runM c (l.take (k + 1)) = actM (runM c (l.take k)) (l.getD k ac0) := by
  rw [take_succ' (d := ac0) l k h]
  simp [runM]
theorem gd_take {l : List Ac} (hl : ∀ x ∈ l, 0 ≤ x.ow ∧ x.ow ≤ 65535) (k : Nat) : Gd (runM c0 (l.take k)) l.length := by
  have := gd_run (l.take k) gd_zero (fun x hx => hl x (List.mem_of_mem_take hx))
  refine gd_mono this ?_
  rw [List.length_take]
  omega
theorem ret_open {c : Ck} {n : Nat} (h : Gd c n) (hn : n ≤ 1000) (o : Int) : retC c o = ⟨c.now + 1, c.l ++ [⟨o, c.now + 1⟩]⟩ ∧ retV c = c.now + 1 ∧ retE c = 0 := by
  have hf : ¬ full c := by unfold full; have := h.now; omega
  unfold retC retV retE
  rw [if_neg hf, if_neg hf, if_neg hf]
  exact ⟨rfl, rfl, rfl⟩
theorem getD_mem {α : Type} {d : α} {l : List α} {k : Nat} (h : k < l.length) : l.getD k d ∈ l := by
  rw [List.getD_eq_getElem?_getD, List.getElem?_eq_getElem h]
  exact List.getElem_mem h
end Go.Proofs.Ytcpkiepdpmaeoaa.EM
