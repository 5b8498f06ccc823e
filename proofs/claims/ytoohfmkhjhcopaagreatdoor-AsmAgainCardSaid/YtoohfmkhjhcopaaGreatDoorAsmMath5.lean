/-
  Plain facts on words as lines that are read again. Nothing of the program is used.
-/
import Derived.Test.YtoohfmkhjhcopaaGreatDoorAsmMath4
import Derived.Test.YtoohfmkhjhcopaaGreatDoorAsmAwake
set_option linter.unusedSimpArgs false
set_option linter.unusedVariables false
namespace Go.Proofs.YtoohfmkhjhcopaaGreatDoor.AM
open IM AF WM WF

/-- begins and ends with what is no blank -/
def Tight (l : List UInt8) : Prop := (∃ c r, l = c :: r ∧ c ≠ 32) ∧ ∃ c r, l = r ++ [c] ∧ c ≠ 32
theorem trim_tight {l : List UInt8} (h : Tight l) : Lib.trimB l 32 = l := by
  obtain ⟨⟨c, r, e, hc⟩, d, q, e2, hd⟩ := h
  have hc : (c == 32) = false := by simpa using hc
  have hd : (d == 32) = false := by simpa using hd
  have h1 : Lib.trimRightB l 32 = l := by
    unfold Lib.trimRightB
    rw [e2]
    simp [List.dropWhile, hd]
  unfold Lib.trimB
  rw [h1, e]
  unfold Lib.trimLeftB
  simp [List.dropWhile, hc]
theorem trim_blanks {l : List UInt8} (h : Tight l) : Lib.trimB (32 :: 32 :: (l ++ [32])) 32 = l := by
  obtain ⟨⟨c, r, e, hc⟩, d, q, e2, hd⟩ := h
  have hc : (c == 32) = false := by simpa using hc
  have hd : (d == 32) = false := by simpa using hd
  have h1 : Lib.trimRightB (32 :: 32 :: (l ++ [32])) 32 = 32 :: 32 :: l := by
    unfold Lib.trimRightB
    rw [e2]
    simp [List.dropWhile, hd]
  unfold Lib.trimB
  rw [h1, e]
  unfold Lib.trimLeftB
  simp [List.dropWhile, hc]
theorem idle_remark (r : List UInt8) : idle (Lib.trimB (32 :: 59 :: r) 32) = true := by
  have h1 : ∃ x, Lib.trimRightB (32 :: 59 :: r) 32 = 32 :: 59 :: x := by
    unfold Lib.trimRightB
    have e : (32 :: 59 :: r : List UInt8).reverse = r.reverse ++ [59, 32] := by simp
    rw [e, List.dropWhile_append]
    split
    · exact ⟨[], by decide⟩
    · exact ⟨(r.reverse.dropWhile (· == 32)).reverse, by simp⟩
  obtain ⟨x, h1⟩ := h1
  unfold Lib.trimB
  rw [h1]
  unfold Lib.trimLeftB idle Lib.hasPrefix
  simp [List.dropWhile]
theorem tight_free {l : List UInt8} (h0 : l ≠ []) (h : 32 ∉ l) : Tight l := by
  constructor
  · cases l with
    | nil => exact absurd rfl h0
    | cons c r => exact ⟨c, r, rfl, fun e => h (by rw [e]; simp)⟩
  · exact ⟨l.getLast h0, l.dropLast, (List.dropLast_concat_getLast h0).symm, fun e => h (e ▸ List.getLast_mem h0)⟩
theorem last_seg {l x : List UInt8} (u : Bool) (h : ∃ c r, l = r ++ [c] ∧ c ≠ 32) (hx : x ≠ [] ∧ 32 ∉ x) : ∃ c r, l ++ seg u x = r ++ [c] ∧ c ≠ 32 := by
  cases u with
  | false =>
    obtain ⟨c, r, e, hc⟩ := h
    exact ⟨c, r, by rw [e]; simp [seg], hc⟩
  | true =>
    refine ⟨x.getLast hx.1, l ++ 32 :: x.dropLast, ?_, fun e => hx.2 (e ▸ List.getLast_mem hx.1)⟩
    have := List.dropLast_concat_getLast hx.1
    show l ++ 32 :: x = _
    rw [List.append_assoc, List.cons_append, this]
theorem seg_free {u : Bool} {x : List UInt8} (h : 10 ∉ x) : (10 : UInt8) ∉ seg u x := by
  cases u with
  | false => simp [seg]
  | true =>
    show (10 : UInt8) ∉ 32 :: x
    simp [h]
theorem rg_ne (d : Int) : rg d ≠ [] := by simp [rg]
theorem pr_tight {i : I5} (h : iOk i) : Tight (prI i) ∧ 10 ∉ prI i ∧ ∃ c r, prI i = c :: r ∧ c ≠ 59 := by
  obtain ⟨o, d, a, b, m⟩ := i
  have h' := h
  simp only [iOk, InsOk] at h'
  have hm := mn_fine (o := o) (by omega)
  have hd := rg_free (d := d) (by omega)
  have ha := rg_free (d := a) (by omega)
  have hb := rg_free (d := b) (by omega)
  have hi := itoa_free m
  have hn : mn o ≠ [] := by
    intro e
    have := hm.2.2.1
    rw [e] at this
    simp at this
  have ht := tight_free hn hm.1
  show Tight (pr o d a b m) ∧ 10 ∉ pr o d a b m ∧ ∃ c r, pr o d a b m = c :: r ∧ c ≠ 59
  refine ⟨⟨?_, ?_⟩, ?_, ?_⟩
  · obtain ⟨⟨c, r, e, hc⟩, _⟩ := ht
    exact ⟨c, _, by unfold pr; rw [e]; rfl, hc⟩
  · have h1 := last_seg (uI o) (last_seg (uB o) (last_seg (uA o) (last_seg (uD o) ht.2 ⟨rg_ne d, hd.1⟩) ⟨rg_ne a, ha.1⟩) ⟨rg_ne b, hb.1⟩) ⟨itoa_ne m, hi.1⟩
    rw [show pr o d a b m = mn o ++ seg (uD o) (rg d) ++ seg (uA o) (rg a) ++ seg (uB o) (rg b) ++ seg (uI o) (Lib.itoa m) by unfold pr; simp only [List.append_assoc]]
    exact h1
  · unfold pr
    simp only [List.mem_append, not_or]
    exact ⟨hm.2.1, seg_free hd.2, seg_free ha.2, seg_free hb.2, seg_free hi.2⟩
  · obtain ⟨⟨c, r, e, hc⟩, _⟩ := ht
    refine ⟨c, _, by unfold pr; rw [e]; rfl, fun e2 => hm.2.2.2.2.1 ?_⟩
    rw [e, e2]
    rfl
theorem hexd_mid (d : Nat) (h : d < 16) : 48 ≤ hexd d ∧ hexd d ≤ 102 := by unfold hexd; split <;> omega
theorem hexB_mid (x : Int) : ∀ c ∈ hexB x, 48 ≤ c.toNat ∧ c.toNat ≤ 102 := by
  intro c hc
  unfold hexB hexL at hc
  simp only [List.map_map, List.mem_map, List.mem_range, Function.comp] at hc
  obtain ⟨j, hj, rfl⟩ := hc
  have := hexd_mid (cutN x.toNat (4 * (7 - j)) 4) (by unfold cutN; omega)
  simp
  omega
theorem hexB_free (x : Int) : 32 ∉ hexB x ∧ 10 ∉ hexB x := ⟨fun h => by have := hexB_mid x _ h; simp at this, fun h => by have := hexB_mid x _ h; simp at this⟩
theorem hexB_ne (x : Int) : hexB x ≠ [] := fun h => by have := hex_len x; rw [h] at this; simp at this
theorem wl_form {x : Int} (hx : 0 ≤ x ∧ x ≤ 4294967295) : Tight (wl x) ∧ 10 ∉ wl x ∧ ∃ c r, wl x = c :: r ∧ c ≠ 59 := by
  unfold wl
  split
  · rename_i h
    exact pr_tight (has_good hx h).1
  · have hf := hexB_free x
    refine ⟨⟨⟨119, _, rfl, by decide⟩, (hexB x).getLast (hexB_ne x), w5 ++ (hexB x).dropLast, ?_, fun e => hf.1 (e ▸ List.getLast_mem (hexB_ne x))⟩, ?_, 119, _, rfl, by decide⟩
    · rw [List.append_assoc, List.dropLast_concat_getLast]
    · simp only [List.mem_append, not_or]
      exact ⟨by decide, hf.2⟩
theorem wl_idle {x : Int} (hx : 0 ≤ x ∧ x ≤ 4294967295) : idle (wl x) = false := by
  obtain ⟨_, _, c, r, e, hc⟩ := wl_form hx
  rw [e]
  have : ((59 : UInt8) == c) = false := by simpa using fun h => hc h.symm
  simp [idle, Lib.hasPrefix, List.isPrefixOf, this]
theorem pr_word {i : I5} (h : iOk i) : Lib.hasPrefix (prI i) w5 = false := by
  cases hp : Lib.hasPrefix (prI i) w5 with
  | false => rfl
  | true =>
    exfalso
    obtain ⟨r, hr⟩ := List.isPrefixOf_iff_prefix.1 hp
    have hg : opOf (pre 32 (prI i)) = some i.1.toNat := by
      obtain ⟨o, d, a, b, m⟩ := i
      exact (gIns_pr (show InsOk o d a b m from h)).1
    have h' := h
    unfold iOk InsOk at h'
    have h2 := (opOf_some hg).2
    rw [← hr, show w5 ++ r = [119, 111, 114, 100] ++ 32 :: r from rfl, (pre_app (by decide)).1, show ((i.1.toNat : Nat) : Int) = i.1 by omega] at h2
    exact (mn_fine (o := i.1) (by omega)).2.2.2.2.2 h2
theorem wl_lw {x : Int} (hx : 0 ≤ x ∧ x ≤ 4294967295) : lw (wl x) = some x := by
  unfold wl
  split
  · rename_i h
    obtain ⟨h1, h2⟩ := has_good hx h
    have h1' : iOk (insOf x) := h1
    unfold lw
    rw [if_neg (by rw [pr_word h1']; simp), pC_pr h1']
    exact congrArg some h2
  · unfold lw
    have hp : Lib.hasPrefix (w5 ++ hexB x) w5 = true := List.isPrefixOf_iff_prefix.2 ⟨_, rfl⟩
    rw [if_pos hp]
    unfold Lib.trimPrefix
    rw [if_pos hp, List.drop_left]
    unfold hexW
    have ho := hex_ok x.toNat
    rw [hexB_str] at ho
    rw [if_pos ho]
    have hv := hex_pv x.toNat (by omega) 8 (by omega)
    rw [hexB_str] at hv
    rw [hv]
    simp
    omega
/-! the lines of words -/
theorem ten_in (a b : List UInt8) : (10 : UInt8) ∈ a ++ 10 :: b := by simp
theorem lns_cons {x : Int} (hx : 0 ≤ x ∧ x ≤ 4294967295) (l : List Int) (k : Nat) : lnsA k (wls (x :: l)) = mkL (k, wl x) :: lnsA (k + 1) (wls l) := by
  have hf := wl_form hx
  have p := pre_app (r := wls l) hf.2.1
  rw [wls_cons, List.append_assoc, List.singleton_append, lnsA_yes (ten_in _ _), p.1, p.2, trim_tight hf.1]
theorem lns_nil (k : Nat) : lnsA k (wls []) = [mkL (k, [])] := by
  rw [show wls [] = [] from rfl, lnsA_no (by simp)]
  rfl
theorem mk_wl {x : Int} (hx : 0 ≤ x ∧ x ≤ 4294967295) (k : Nat) : (mkL (k, wl x)).2.1 = wl x := mkL_2 _ (Nat.le_trans (wl_len hx) (by decide))
theorem mk_short (k : Nat) (l : List UInt8) (h : l.length ≤ 1000) : (mkL (k, l)).2.1 = l := mkL_2 _ (Nat.le_trans h (by decide))
theorem fine_wl {x : Int} (hx : 0 ≤ x ∧ x ≤ 4294967295) (k : Nat) : Fine (mkL (k, wl x)) := .inr ⟨x, by rw [mk_wl hx]; exact wl_lw hx⟩
theorem wds_cons (a : Ln) (p : List Ln) : wdsOf (a :: p) = wdsOf [a] ++ wdsOf p := by simp [wdsOf]
theorem wds_wl {x : Int} (hx : 0 ≤ x ∧ x ≤ 4294967295) (k : Nat) : wdsOf [mkL (k, wl x)] = [x] := by
  have := wds_word (p := []) (x := mkL (k, wl x)) (w := x) (by rw [mk_wl hx]; exact wl_idle hx) (by rw [mk_wl hx]; exact wl_lw hx)
  simpa [wdsOf] using this
theorem wds_none {y : Ln} (h : idle y.2.1 = true) : wdsOf [y] = [] := by
  have := wds_idle (p := []) (x := y) h
  simpa [wdsOf] using this
theorem idle_nil : idle [] = true := rfl
theorem again_fine : ∀ (l : List Int) (k : Nat), (∀ x ∈ l, 0 ≤ x ∧ x ≤ 4294967295) → ∀ y ∈ lnsA k (wls l), Fine y
  | [], k, _, y, hy => by
    rw [lns_nil] at hy
    obtain rfl := List.mem_singleton.1 hy
    exact .inl rfl
  | x :: l, k, h, y, hy => by
    rw [lns_cons (h x (by simp))] at hy
    rcases List.mem_cons.1 hy with rfl | hy
    · exact fine_wl (h x (by simp)) k
    · exact again_fine l (k + 1) (fun z hz => h z (List.mem_cons_of_mem _ hz)) y hy
theorem again_wds : ∀ (l : List Int) (k : Nat), (∀ x ∈ l, 0 ≤ x ∧ x ≤ 4294967295) → wdsOf (lnsA k (wls l)) = l
  | [], k, _ => by
    rw [lns_nil]
    exact wds_none rfl
  | x :: l, k, h => by
    rw [lns_cons (h x (by simp)), wds_cons, wds_wl (h x (by simp)), again_wds l (k + 1) (fun z hz => h z (List.mem_cons_of_mem _ hz))]
    rfl
theorem again_at : ∀ (l : List Int) (k : Nat), (∀ x ∈ l, 0 ≤ x ∧ x ≤ 4294967295) → ∀ {init r : List Ln} {x : Ln}, lnsA k (wls l) = init ++ x :: r → (wdsOf init).length = init.length ∧ x.1 = k + init.length
  | [], k, _, init, r, x, e => by
    rw [lns_nil] at e
    match init, e with
    | [], e =>
      simp only [List.nil_append, List.cons.injEq] at e
      rw [← e.1]
      exact ⟨rfl, rfl⟩
    | a :: b, e => simp at e
  | z :: l, k, h, init, r, x, e => by
    rw [lns_cons (h z (by simp))] at e
    match init, e with
    | [], e =>
      simp only [List.nil_append, List.cons.injEq] at e
      rw [← e.1]
      exact ⟨rfl, rfl⟩
    | a :: b, e =>
      simp only [List.cons_append, List.cons.injEq] at e
      obtain ⟨rfl, e2⟩ := e
      have ih := again_at l (k + 1) (fun z hz => h z (List.mem_cons_of_mem _ hz)) e2
      rw [wds_cons, wds_wl (h z (by simp))]
      simp
      omega
/-- more words than there may be: which line is told -/
theorem again_bad {l : List Int} (h : ∀ x ∈ l, 0 ≤ x ∧ x ≤ 4294967295) {init r : List Ln} {x : Ln} {k : Int} (e : lnsA 0 (wls l) = init ++ x :: r) (hb : Bad init x k) : k = 5 ∧ x.1 = 512 := by
  obtain ⟨_, h2, h3, h4⟩ := hb
  have ha := again_at l 0 h e
  rcases h4 with ⟨h5, _⟩ | ⟨_, h5, h6⟩
  · exfalso
    rcases again_fine l 0 h x (by rw [e]; simp) with h7 | ⟨w, h7⟩
    · rw [h3] at h7; cases h7
    · rw [h5] at h7; cases h7
  · exact ⟨h6, by omega⟩
/-! the lines of words, with blanks, empty lines and remarks between -/
def iL (r : List UInt8) (x : Int) : List UInt8 := (((([32, 32] ++ wl x) ++ [32, 10, 10, 32, 59]) ++ r) ++ [10])
def iT (r : List UInt8) (l : List Int) : List UInt8 := l.flatMap (iL r)
theorem iT_snoc (r : List UInt8) (l : List Int) (x : Int) : iT r (l ++ [x]) = iT r l ++ iL r x := by simp [iT]
theorem iT_cons (r : List UInt8) (l : List Int) (x : Int) : iT r (x :: l) = iL r x ++ iT r l := by simp [iT]
theorem iL_len (r : List UInt8) {x : Int} (hx : 0 ≤ x ∧ x ≤ 4294967295) : (iL r x).length ≤ 32 + r.length := by
  have := wl_len hx
  simp [iL]
  omega
theorem iT_len (r : List UInt8) : ∀ (l : List Int), (∀ x ∈ l, 0 ≤ x ∧ x ≤ 4294967295) → (iT r l).length ≤ (32 + r.length) * l.length
  | [], _ => by simp [iT]
  | x :: l, h => by
    have h1 := iT_len r l (fun y hy => h y (List.mem_cons_of_mem _ hy))
    have h2 := iL_len r (h x (by simp))
    rw [iT_cons, List.length_append, List.length_cons, Nat.mul_succ]
    omega
theorem idle_cons {r : List UInt8} (hr : 10 ∉ r) {x : Int} (hx : 0 ≤ x ∧ x ≤ 4294967295) (l : List Int) (k : Nat) :
    lnsA k (iT r (x :: l)) = mkL (k, wl x) :: mkL (k + 1, []) :: mkL (k + 1 + 1, Lib.trimB (32 :: 59 :: r) 32) :: lnsA (k + 1 + 1 + 1) (iT r l) := by
  have hf := wl_form hx
  have e : iT r (x :: l) = (32 :: 32 :: (wl x ++ [32])) ++ 10 :: ([] ++ 10 :: ((32 :: 59 :: r) ++ 10 :: iT r l)) := by
    rw [iT_cons]
    simp [iL]
  have p1 := pre_app (c := 10) (a := 32 :: 32 :: (wl x ++ [32])) (r := [] ++ 10 :: ((32 :: 59 :: r) ++ 10 :: iT r l)) (by simp [hf.2.1])
  have p2 := pre_app (c := 10) (a := []) (r := (32 :: 59 :: r) ++ 10 :: iT r l) (by simp)
  have p3 := pre_app (c := 10) (a := 32 :: 59 :: r) (r := iT r l) (by simp [hr])
  rw [e, lnsA_yes (ten_in _ _), p1.1, p1.2, lnsA_yes (ten_in _ _), p2.1, p2.2, lnsA_yes (ten_in _ _), p3.1, p3.2, trim_blanks hf.1]
  rfl
theorem rem_short {r : List UInt8} (h : r.length ≤ 100) (k : Nat) : (mkL (k, Lib.trimB (32 :: 59 :: r) 32)).2.1 = Lib.trimB (32 :: 59 :: r) 32 := mk_short _ _ (by
  have := trim_len (32 :: 59 :: r) 32
  simp at this
  omega)
theorem idle_fine {r : List UInt8} (hr : 10 ∉ r) (hl : r.length ≤ 100) : ∀ (l : List Int) (k : Nat), (∀ x ∈ l, 0 ≤ x ∧ x ≤ 4294967295) → ∀ y ∈ lnsA k (iT r l), Fine y
  | [], k, _, y, hy => by
    rw [show iT r [] = wls [] from rfl, lns_nil] at hy
    obtain rfl := List.mem_singleton.1 hy
    exact .inl rfl
  | x :: l, k, h, y, hy => by
    rw [idle_cons hr (h x (by simp))] at hy
    simp only [List.mem_cons] at hy
    rcases hy with rfl | rfl | rfl | hy
    · exact fine_wl (h x (by simp)) k
    · exact .inl rfl
    · exact .inl (by rw [rem_short hl]; exact idle_remark r)
    · exact idle_fine hr hl l _ (fun z hz => h z (List.mem_cons_of_mem _ hz)) y hy
theorem idle_wds {r : List UInt8} (hr : 10 ∉ r) (hl : r.length ≤ 100) : ∀ (l : List Int) (k : Nat), (∀ x ∈ l, 0 ≤ x ∧ x ≤ 4294967295) → wdsOf (lnsA k (iT r l)) = l
  | [], k, _ => by
    rw [show iT r [] = wls [] from rfl, lns_nil]
    exact wds_none rfl
  | x :: l, k, h => by
    rw [idle_cons hr (h x (by simp)), wds_cons, wds_wl (h x (by simp)), wds_cons, wds_none (y := mkL (k + 1, [])) rfl, wds_cons, wds_none (y := mkL (k + 1 + 1, _)) (by rw [rem_short hl]; exact idle_remark r),
      idle_wds hr hl l _ (fun z hz => h z (List.mem_cons_of_mem _ hz))]
    rfl
/-! the lines of words, looked for byte by byte -/
theorem wls_app (a b : List Int) : wls (a ++ b) = wls a ++ wls b := by simp [wls]
theorem wls_split (L : List Int) (n : Nat) : wls L = wls (L.take n) ++ wls (L.drop n) := by rw [← wls_app, List.take_append_drop]
theorem cut_line {L : List Int} (h : ∀ x ∈ L, 0 ≤ x ∧ x ≤ 4294967295) {n p : Nat} (h10 : 10 ∉ (wls (L.drop n)).take p) (hp : p < (wls (L.drop n)).length) (hat : (wls (L.drop n))[p] = 10) :
    ∃ hlt : n < L.length, (wls (L.drop n)).take p = wl L[n] ∧ (wls (L.take n)).length + p + 1 = (wls (L.take (n + 1))).length := by
  have hlt : n < L.length := by
    rcases Nat.lt_or_ge n L.length with h | h
    · exact h
    · rw [List.drop_eq_nil_of_le h] at hp
      simp [wls] at hp
  have e1 : wls (L.drop n) = (wls (L.drop n)).take p ++ 10 :: (wls (L.drop n)).drop (p + 1) := by
    conv => lhs; rw [← List.take_append_drop p (wls (L.drop n)), List.drop_eq_getElem_cons hp, hat]
  have e2 : wls (L.drop n) = wl L[n] ++ 10 :: wls (L.drop (n + 1)) := by
    rw [List.drop_eq_getElem_cons hlt, wls_cons, List.append_assoc, List.singleton_append]
  have hf := wl_form (h L[n] (List.getElem_mem hlt))
  have p1 := (pre_app (r := (wls (L.drop n)).drop (p + 1)) h10).1
  have p2 := (pre_app (r := wls (L.drop (n + 1))) hf.2.1).1
  rw [← e1] at p1
  rw [← e2] at p2
  have e3 : (wls (L.drop n)).take p = wl L[n] := by rw [← p1, p2]
  refine ⟨hlt, e3, ?_⟩
  rw [List.take_succ_eq_append_getElem hlt, wls_snoc]
  have := congrArg List.length e3
  rw [List.length_take] at this
  simp
  omega
theorem cut_end {L : List Int} {n : Nat} (hn : n ≤ L.length) (h10 : 10 ∉ wls (L.drop n)) : L.take n = L := by
  rcases Nat.lt_or_ge n L.length with h | h
  · exfalso
    apply h10
    rw [List.drop_eq_getElem_cons h, wls_cons]
    simp
  · exact List.take_of_length_le h
theorem cut_part (A B : List UInt8) (p : Nat) : (bs (A ++ B)).extract A.length (A.length + p) = bs (B.take p) := by
  apply ByteArray.ext
  rw [ByteArray.data_extract]
  apply Array.toList_inj.1
  rw [Array.toList_extract, bs_list, bs_list]
  simp [List.extract]
end Go.Proofs.YtoohfmkhjhcopaaGreatDoor.AM
