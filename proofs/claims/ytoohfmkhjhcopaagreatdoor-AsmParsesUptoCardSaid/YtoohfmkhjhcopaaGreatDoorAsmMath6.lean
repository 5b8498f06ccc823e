/-
  Plain facts on a line's words, and on the instruction that they may tell. Nothing of the program is used.
-/
import Derived.Test.YtoohfmkhjhcopaaGreatDoorAsmMath2
import Derived.Test.YtoohfmkhjhcopaaGreatDoorWordParse
set_option linter.unusedSimpArgs false
set_option linter.unusedVariables false
namespace Go.Proofs.YtoohfmkhjhcopaaGreatDoor.AM
open IM WF

/-- what stands between blanks -/
def wsOf (l : List UInt8) : List (List UInt8) := if h : (32 : UInt8) ∈ l then pre 32 l :: wsOf (post 32 l) else [l]
termination_by l.length
decreasing_by exact post_lt h
theorem ws_yes {l : List UInt8} (h : (32 : UInt8) ∈ l) : wsOf l = pre 32 l :: wsOf (post 32 l) := by rw [wsOf, dif_pos h]
theorem ws_no {l : List UInt8} (h : (32 : UInt8) ∉ l) : wsOf l = [l] := by rw [wsOf, dif_neg h]
theorem ws_ne (l : List UInt8) : wsOf l ≠ [] := by
  rw [wsOf]
  split <;> simp
theorem ws_cut {a r : List UInt8} (h : (32 : UInt8) ∉ a) : wsOf (a ++ 32 :: r) = a :: wsOf r := by
  have p := pre_app (r := r) h
  rw [ws_yes (by simp), p.1, p.2]
def opt (u : Bool) (x : List UInt8) : List (List UInt8) := if u then [x] else []
def tailW (T : List UInt8) : List (List UInt8) := if T = [] then [] else wsOf (T.drop 1)
theorem ws_head {x T : List UInt8} (hx : 32 ∉ x) (h : Tl T) : wsOf (x ++ T) = x :: tailW T := by
  rcases h with rfl | ⟨r, rfl⟩
  · rw [List.append_nil, ws_no hx]
    rfl
  · rw [ws_cut hx]
    rfl
theorem tail_seg {u : Bool} {x T : List UInt8} (hx : 32 ∉ x) (h : Tl T) : tailW (seg u x ++ T) = opt u x ++ tailW T := by
  cases u with
  | false => rfl
  | true =>
    show tailW (32 :: (x ++ T)) = x :: tailW T
    rw [← ws_head hx h]
    rfl
theorem tail_last {u : Bool} {x : List UInt8} (hx : 32 ∉ x) : tailW (seg u x) = opt u x := by
  have := tail_seg (u := u) hx (T := []) (Or.inl rfl)
  rw [List.append_nil] at this
  rw [this]
  simp [tailW]
/-! numbers -/
def w32 (x : Int) : Int := (x + 2147483648) % 4294967296 - 2147483648
def numF : Int → List UInt8 → Int
  | n, [] => n
  | n, c :: r => numF (w32 (w32 (w32 (10 * n) + (c.toNat : Int)) - 48)) r
theorem numF_app (a b : List UInt8) : ∀ n, numF n (a ++ b) = numF (numF n a) b := by
  induction a with
  | nil => intro n; rfl
  | cons c r ih => intro n; exact ih _
def num (l : List UInt8) : Int := if l.headD 0 = 45 then w32 (-(numF 0 ((l.drop 1).take 8))) else numF 0 (l.take 8)
theorem w32_in {x : Int} (h : -2147483648 ≤ x ∧ x ≤ 2147483647) : w32 x = x := by unfold w32; omega
theorem w32_bd (x : Int) : -2147483648 ≤ w32 x ∧ w32 x ≤ 2147483647 := by unfold w32; omega
theorem numF_bd : ∀ (l : List UInt8) (n : Int), -2147483648 ≤ n ∧ n ≤ 2147483647 → -2147483648 ≤ numF n l ∧ numF n l ≤ 2147483647
  | [], n, h => h
  | c :: r, n, h => numF_bd r _ (w32_bd _)
theorem num_bd (l : List UInt8) : -2147483648 ≤ num l ∧ num l ≤ 2147483647 := by
  unfold num
  split
  · exact w32_bd _
  · exact numF_bd _ _ (by omega)
theorem numF_dec : ∀ (k u : Nat), k ≤ 7 → u < 10 ^ k → 1 ≤ k → numF 0 (Lib.decDigits u) = u ∧ (Lib.decDigits u).length ≤ k
  | 0, u, _, h, h1 => by omega
  | k + 1, u, hk, h, _ => by
    have hb : u < 10000000 := Nat.lt_of_lt_of_le h (Nat.pow_le_pow_right (n := 10) (by omega) hk)
    by_cases h9 : u < 10
    · rw [Lib.decDigits, dif_pos h9]
      refine ⟨?_, by simp⟩
      have hd := digit_nat u h9
      show w32 (w32 (w32 (10 * 0) + ((UInt8.ofNat (48 + u)).toNat : Int)) - 48) = u
      rw [hd]
      unfold w32
      omega
    · have hk1 : 1 ≤ k := by
        rcases Nat.eq_zero_or_pos k with rfl | h
        · simp at h; omega
        · exact h
      have ih := numF_dec k (u / 10) (by omega) (by rw [Nat.pow_succ] at h; omega) hk1
      rw [Lib.decDigits, dif_neg h9]
      have hd := digit_nat (u % 10) (by omega)
      refine ⟨?_, by rw [List.length_append]; simp; omega⟩
      rw [numF_app, ih.1]
      show w32 (w32 (w32 (10 * ((u / 10 : Nat) : Int)) + ((UInt8.ofNat (48 + u % 10)).toNat : Int)) - 48) = u
      rw [hd]
      unfold w32
      omega
theorem num_itoa {m : Int} (h : -1048576 ≤ m ∧ m ≤ 1048575) : num (Lib.itoa m) = m := by
  have hu := numF_dec 7 m.natAbs (by omega) (by simp; omega) (by omega)
  unfold Lib.itoa
  split
  · rename_i hm
    unfold num
    rw [if_pos (by rfl)]
    show w32 (-(numF 0 ((Lib.decDigits m.natAbs).take 8))) = m
    rw [List.take_of_length_le (by omega), hu.1, w32_in (by omega)]
    omega
  · rename_i hm
    obtain ⟨c, r, e, h1, h2⟩ := dec_head m.toNat
    rw [show m.natAbs = m.toNat by omega] at hu
    unfold num
    rw [if_neg (by rw [e]; intro h; simp at h; subst h; simp at h1), List.take_of_length_le (by omega), hu.1]
    omega
/-! the instruction that words may tell -/
def rv (ws : List (List UInt8)) (k : Nat) : Int := match ws[k]? with
  | some p => if p.length = 2 then ((p.getD 1 0).toNat - 48 : Int) % 256 else 0
  | none => 0
def nv (ws : List (List UInt8)) (k : Nat) : Int := match ws[k]? with
  | some p => num p
  | none => 0
def b2 (u : Bool) : Nat := if u then 1 else 0
def kA (o : Int) : Nat := 1 + b2 (uD o)
def kB (o : Int) : Nat := kA o + b2 (uA o)
def kI (o : Int) : Nat := kB o + b2 (uB o)
def cand (ws : List (List UInt8)) (o : Int) : I5 := (o, if uD o then rv ws 1 else 0, if uA o then rv ws (kA o) else 0, if uB o then rv ws (kB o) else 0, if uI o then nv ws (kI o) else 0)
theorem rv_bd (ws : List (List UInt8)) (k : Nat) : 0 ≤ rv ws k ∧ rv ws k ≤ 255 := by
  unfold rv
  split
  · split <;> omega
  · omega
theorem nv_bd (ws : List (List UInt8)) (k : Nat) : -2147483648 ≤ nv ws k ∧ nv ws k ≤ 2147483647 := by
  unfold nv
  split
  · exact num_bd _
  · omega
theorem rg_val {d : Int} (h : 0 ≤ d ∧ d ≤ 7) : (if (rg d).length = 2 then (((rg d).getD 1 0).toNat - 48 : Int) % 256 else 0) = d := by
  unfold rg
  rw [itoa_reg h]
  have := digit_nat d.toNat (by omega)
  simp only [List.length_cons, List.length_nil, Nat.zero_add, if_true]
  rw [show ([114, UInt8.ofNat (48 + d.toNat)] : List UInt8).getD 1 0 = UInt8.ofNat (48 + d.toNat) from rfl, this]
  omega
theorem ws_pr {i : I5} (h : iOk i) : wsOf (prI i) = mn i.1 :: (opt (uD i.1) (rg i.2.1) ++ (opt (uA i.1) (rg i.2.2.1) ++ (opt (uB i.1) (rg i.2.2.2.1) ++ opt (uI i.1) (Lib.itoa i.2.2.2.2)))) := by
  obtain ⟨o, d, a, b, m⟩ := i
  have h' := h
  simp only [iOk, InsOk] at h'
  have hm := mn_fine (o := o) (by omega)
  have hd := rg_free (d := d) (by omega)
  have ha := rg_free (d := a) (by omega)
  have hb := rg_free (d := b) (by omega)
  have hi := itoa_free m
  have t3 := tl_seg1 (uI o) (Lib.itoa m)
  have t2 := tl_seg (u := uB o) (x := rg b) t3
  have t1 := tl_seg (u := uA o) (x := rg a) t2
  show wsOf (pr o d a b m) = _
  unfold pr
  rw [ws_head hm.1 (tl_seg t1), tail_seg hd.1 t1, tail_seg ha.1 t2, tail_seg hb.1 t3, tail_last hi.1]
theorem cand_pr {i : I5} (h : iOk i) : cand (wsOf (prI i)) i.1 = i ∧ (wsOf (prI i))[0]? = some (mn i.1) := by
  rw [ws_pr h]
  refine ⟨?_, rfl⟩
  obtain ⟨o, d, a, b, m⟩ := i
  have h' := h
  simp only [iOk, InsOk] at h'
  have uu : (uD o = true ∨ d = 0) ∧ (uA o = true ∨ a = 0) ∧ (uB o = true ∨ b = 0) ∧ (uI o = true ∨ m = 0) := by
    unfold uD uA uB uI
    simp only [decide_eq_true_eq]
    omega
  have rd := rg_val (d := d) (by omega)
  have ra := rg_val (d := a) (by omega)
  have rb := rg_val (d := b) (by omega)
  have ni := num_itoa (m := m) (by omega)
  obtain ⟨u1, u2, u3, u4⟩ := uu
  unfold cand kI kB kA
  simp only
  generalize uD o = x1 at *
  generalize uA o = x2 at *
  generalize uB o = x3 at *
  generalize uI o = x4 at *
  generalize rg d = gd at *
  generalize rg a = ga at *
  generalize rg b = gb at *
  generalize Lib.itoa m = gi at *
  cases x1 <;> cases x2 <;> cases x3 <;> cases x4 <;> simp_all [opt, rv, nv, b2]
/-- a line that words tell no instruction of -/
theorem cand_eq {l : List UInt8} {i : I5} (h : pC l = some i) : cand (wsOf l) i.1 = i ∧ (wsOf l)[0]? = some (mn i.1) ∧ iOk i ∧ prI i = l := by
  obtain ⟨h1, h2⟩ := pC_iff.1 h
  have := cand_pr h1
  rw [h2] at this
  exact ⟨this.1, this.2, h1, h2⟩
/-! a line gone over byte by byte: A where the word begins, q the byte, os the words ahead -/
theorem ex_bs (l : List UInt8) (A q : Nat) : (bs l).extract A q = bs ((l.drop A).take (q - A)) := by
  apply ByteArray.ext
  rw [ByteArray.data_extract]
  apply Array.toList_inj.1
  rw [Array.toList_extract, bs_list, bs_list]
def Wm (l : List UInt8) (A q : Nat) (os : List (List UInt8)) : Prop := A ≤ q ∧ os.length ≤ A ∧ q ≤ l.length + 1 ∧ (q ≤ l.length → os ++ wsOf (l.drop A) = wsOf l ∧ 32 ∉ (l.drop A).take (q - A)) ∧ (l.length < q → os = wsOf l)
section
variable {l : List UInt8} {A q : Nat} {os : List (List UInt8)}
theorem wm_start : Wm l 0 0 [] := ⟨by omega, by simp, by omega, fun _ => ⟨rfl, by simp⟩, fun h => by omega⟩
theorem bt_bs (h : q < l.length) : bt (bs l) q = ((l[q]'h).toNat : Int) := by
  unfold bt
  rw [bs_list, List.getD_eq_getElem?_getD, List.getElem?_eq_getElem h]
  rfl
theorem wm_no (h : Wm l A q os) (hq : q < l.length) (h32 : bt (bs l) q ≠ 32) : Wm l A (q + 1) os := by
  obtain ⟨h1, h2, h3, h4, h5⟩ := h
  obtain ⟨h6, h7⟩ := h4 (by omega)
  refine ⟨by omega, h2, by omega, fun _ => ⟨h6, ?_⟩, fun h => by omega⟩
  rw [bt_bs hq] at h32
  have hlt : q - A < (l.drop A).length := by rw [List.length_drop]; omega
  rw [show q + 1 - A = (q - A) + 1 by omega, List.take_succ_eq_append_getElem hlt]
  simp only [List.mem_append, List.mem_singleton, not_or]
  refine ⟨h7, fun e => h32 ?_⟩
  have e2 : (l.drop A)[q - A]'hlt = l[q]'hq := by rw [List.getElem_drop]; congr 1; omega
  rw [e2] at e
  rw [← e]
  rfl
theorem wm_yes (h : Wm l A q os) (hq : q < l.length) (h32 : bt (bs l) q = 32) : ∃ p, (bs l).extract A q = bs p ∧ p.length ≤ l.length ∧ Wm l (q + 1) (q + 1) (os ++ [p]) := by
  obtain ⟨h1, h2, h3, h4, h5⟩ := h
  obtain ⟨h6, h7⟩ := h4 (by omega)
  have e : l[q]'hq = 32 := by rw [bt_bs hq] at h32; rw [← UInt8.toNat_inj]; exact Int.ofNat.inj h32
  have e2 : l.drop A = (l.drop A).take (q - A) ++ 32 :: l.drop (q + 1) := by
    conv => lhs; rw [← List.take_append_drop (q - A) (l.drop A)]
    rw [List.drop_drop, show A + (q - A) = q by omega, List.drop_eq_getElem_cons hq, e]
  have e3 : wsOf (l.drop A) = (l.drop A).take (q - A) :: wsOf (l.drop (q + 1)) := by
    conv => lhs; rw [e2]
    exact ws_cut h7
  refine ⟨_, ex_bs l A q, by rw [List.length_take, List.length_drop]; omega, by omega, by simp; omega, by omega, fun _ => ⟨?_, by simp⟩, fun h => by omega⟩
  rw [List.append_assoc, ← h6, e3]
  rfl
theorem wm_last (h : Wm l A q os) (hq : q = l.length) : ∃ p, (bs l).extract A q = bs p ∧ p.length ≤ l.length ∧ Wm l (q + 1) (q + 1) (os ++ [p]) := by
  obtain ⟨h1, h2, h3, h4, h5⟩ := h
  obtain ⟨h6, h7⟩ := h4 (by omega)
  have e : (l.drop A).take (q - A) = l.drop A := List.take_of_length_le (by rw [List.length_drop]; omega)
  refine ⟨_, ex_bs l A q, by rw [List.length_take, List.length_drop]; omega, by omega, by simp; omega, by omega, fun h => by omega, fun _ => ?_⟩
  rw [e] at h7 ⊢
  rw [← h6, ws_no h7]
theorem wm_end (h : Wm l A q os) (hq : l.length < q) : os = wsOf l := h.2.2.2.2 hq
end
end Go.Proofs.YtoohfmkhjhcopaaGreatDoor.AM
