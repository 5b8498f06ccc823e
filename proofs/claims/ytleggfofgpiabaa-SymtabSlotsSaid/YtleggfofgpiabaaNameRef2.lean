/-
  The reference for layer 2: versions, what stands about the @, names.
-/
import Derived.Test.YtleggfofgpiabaaNameRef
set_option linter.unusedSimpArgs false
set_option linter.unusedVariables false
namespace Go.Proofs.Ytleggfofgpiabaa.NF
open Go.RowKit NM

theorem drop_bt (l : List UInt8) (k : Nat) (h : k < l.length) : ∃ c : UInt8, l.drop k = c :: l.drop (k + 1) ∧ c.toNat = bt l k := by
  refine ⟨l[k], List.drop_eq_getElem_cons h, ?_⟩
  unfold bt
  rw [List.getD_eq_getElem?_getD, List.getElem?_eq_getElem h]
  rfl
theorem verG_at (l : List UInt8) (k v : Nat) (h : k < l.length) : verG v (l.drop k) = if 48 ≤ bt l k ∧ bt l k ≤ 57 then verG (10 * v + (bt l k - 48)) (l.drop (k + 1)) else 0 := by
  obtain ⟨c, e, hc⟩ := drop_bt l k h
  rw [e, ← hc]
  rfl
theorem verG_end (l : List UInt8) (k v : Nat) (h : ¬ k < l.length) : verG v (l.drop k) = v := by
  rw [List.drop_eq_nil_of_le (by omega)]; rfl
theorem pre_here (l : List UInt8) (k : Nat) (h : k < l.length) (hp : k ≤ (pre l).length) (hb : bt l k = 64) : (pre l).length = k ∧ hasAt l = true := by
  have ha : hasAt l = true := by
    cases ha : hasAt l with
    | true => rfl
    | false =>
      exfalso
      obtain ⟨c, e, hc⟩ := drop_bt l k h
      have hm : c ∈ l := List.mem_of_mem_drop (i := k) (by rw [e]; exact List.mem_cons_self)
      have e64 : c = 64 := UInt8.toNat_inj.1 (by rw [hc, hb]; rfl)
      unfold hasAt at ha
      subst e64
      have : l.contains 64 = true := List.contains_iff_mem.2 hm
      rw [ha] at this
      cases this
  refine ⟨?_, ha⟩
  rcases Nat.lt_or_ge k (pre l).length with h' | h'
  · exfalso
    have e := take_pre l
    have h1 : bt (pre l) k = bt l k := by
      have e3 : (l.take (pre l).length)[k]? = l[k]? := by rw [List.getElem?_take, if_pos h']
      rw [e] at e3
      unfold bt
      rw [List.getD_eq_getElem?_getD, List.getD_eq_getElem?_getD, e3]
    obtain ⟨c, e2, hc⟩ := drop_bt (pre l) k h'
    have hm : c ∈ pre l := List.mem_of_mem_drop (i := k) (by rw [e2]; exact List.mem_cons_self)
    have e64 : c = 64 := UInt8.toNat_inj.1 (by rw [hc, h1, hb]; rfl)
    have h3 := pre_hasAt l
    unfold hasAt at h3
    subst e64
    have : (pre l).contains 64 = true := List.contains_iff_mem.2 hm
    rw [h3] at this
    cases this
  · omega
theorem pre_next (l : List UInt8) (k : Nat) (h : k < l.length) (hp : k ≤ (pre l).length) (hb : bt l k ≠ 64) : k + 1 ≤ (pre l).length := by
  rcases Nat.lt_or_ge k (pre l).length with h' | h'
  · exact h'
  · exfalso
    have ek : (pre l).length = k := by omega
    have e := pre_eq l
    cases ha : hasAt l with
    | true =>
      rw [if_pos ha] at e
      apply hb
      have : bt (pre l ++ 64 :: post l) (pre l).length = 64 := by
        unfold bt
        rw [List.getD_eq_getElem?_getD, List.getElem?_append_right (Nat.le_refl _)]
        simp
      rwa [← e, ek] at this
    | false =>
      rw [(pre_none l ha).1] at ek
      omega
theorem pre_all (l : List UInt8) (hp : l.length ≤ (pre l).length) : hasAt l = false := by
  cases ha : hasAt l with
  | true => have := pre_len l ha; omega
  | false => rfl
end Go.Proofs.Ytleggfofgpiabaa.NF
