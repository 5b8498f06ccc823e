/-
  Plain facts on texts for the layer name: runes, stems, versions. Nothing of the program is used.
-/
import Derived.Laws.RangeString
import Derived.Laws.Runes
import Derived.Laws.Strings
import Derived.Lib.Bytealg
set_option linter.unusedSimpArgs false
set_option linter.unusedVariables false
namespace Go.Proofs.YtenilpofmfcofaaDoor.NM

/-- the byte at a place, as a number -/
def bt (l : List UInt8) (k : Nat) : Nat := (l.getD k 0).toNat
theorem bt_lt (l : List UInt8) (k : Nat) : bt l k < 256 := (l.getD k 0).toNat_lt
theorem bt_none (l : List UInt8) (k : Nat) (h : l.length ≤ k) : bt l k = 0 := by
  unfold bt
  rw [List.getD_eq_getElem?_getD, List.getElem?_eq_none h]
  rfl
theorem bt_drop (l : List UInt8) (i k : Nat) : bt (l.drop i) k = bt l (i + k) := by
  unfold bt
  rw [List.getD_eq_getElem?_getD, List.getD_eq_getElem?_getD, List.getElem?_drop]
/-- a byte within a rune -/
def ct (l : List UInt8) (k : Nat) : Bool := bt l k / 64 == 2
theorem ct_lt {l : List UInt8} {k : Nat} (h : ct l k = true) : k < l.length := by
  rcases Nat.lt_or_ge k l.length with h' | h'
  · exact h'
  · unfold ct at h
    rw [bt_none l k h'] at h
    simp at h
/-- the rune that begins a text, -1 of a wrong one, and its bytes -/
def dec (l : List UInt8) : Int × Nat :=
  if bt l 0 < 128 then (((bt l 0 : Nat) : Int), 1)
  else if bt l 0 / 32 = 6 ∧ ct l 1 = true then
    (if 128 ≤ bt l 0 % 32 * 64 + bt l 1 % 64 then ((bt l 0 % 32 * 64 + bt l 1 % 64 : Nat), 2) else (-1, 1))
  else if bt l 0 / 16 = 14 ∧ ct l 1 = true ∧ ct l 2 = true then
    (if 2048 ≤ bt l 0 % 16 * 4096 + bt l 1 % 64 * 64 + bt l 2 % 64 ∧ ¬ (55296 ≤ bt l 0 % 16 * 4096 + bt l 1 % 64 * 64 + bt l 2 % 64 ∧ bt l 0 % 16 * 4096 + bt l 1 % 64 * 64 + bt l 2 % 64 ≤ 57343) then ((bt l 0 % 16 * 4096 + bt l 1 % 64 * 64 + bt l 2 % 64 : Nat), 3) else (-1, 1))
  else if bt l 0 / 8 = 30 ∧ ct l 1 = true ∧ ct l 2 = true ∧ ct l 3 = true then
    (if 65536 ≤ bt l 0 % 8 * 262144 + bt l 1 % 64 * 4096 + bt l 2 % 64 * 64 + bt l 3 % 64 ∧ bt l 0 % 8 * 262144 + bt l 1 % 64 * 4096 + bt l 2 % 64 * 64 + bt l 3 % 64 ≤ 1114111 then ((bt l 0 % 8 * 262144 + bt l 1 % 64 * 4096 + bt l 2 % 64 * 64 + bt l 3 % 64 : Nat), 4) else (-1, 1))
  else (-1, 1)

theorem get_at (s : ByteArray) (i : Nat) : (s.get! i).toNat = bt s.data.toList i := by
  unfold bt
  rw [List.getD_eq_getElem?_getD]
  by_cases h : i < s.size
  · have h' : i < s.data.toList.length := by simpa using h
    rw [List.getElem?_eq_getElem h']
    show (s.get! i).toNat = (s.data.toList[i]).toNat
    have e : s.get! i = s[i]'h := by simp [ByteArray.get!, getElem!_pos, h]; rfl
    rw [e]; rfl
  · have h' : s.data.toList.length ≤ i := by simpa using h
    rw [List.getElem?_eq_none h']
    simp only [ByteArray.get!]
    rw [getElem!_neg]
    · rfl
    · simpa using h
theorem cont_at (s : ByteArray) (i k : Nat) : (decide (i + k < s.size) && (s.get! (i + k)).toNat / 64 == 2) = ct (s.data.toList.drop i) k := by
  rw [get_at]
  unfold ct
  rw [bt_drop]
  by_cases h : i + k < s.size
  · simp [h]
  · have h' : s.data.toList.length ≤ i + k := by simpa using h
    rw [bt_none _ _ h']
    simp
/-- the rune as a range tells it -/
def told (r : Int) : Int := if r < 0 then 65533 else r
theorem valid_nat (c : Nat) : Utf8.valid (c : Int) = decide (¬ (55296 ≤ c ∧ c ≤ 57343) ∧ c ≤ 1114111) := by
  rw [validRune_eq]
  unfold validRune
  rw [Bool.eq_iff_iff]
  simp only [decide_eq_true_eq]
  omega
theorem decode_dec (s : ByteArray) (i : Nat) : ((Utf8.decode s i).1 : Int) = told (dec (s.data.toList.drop i)).1 ∧ (Utf8.decode s i).2 = (dec (s.data.toList.drop i)).2 := by
  have h1 := cont_at s i 1
  have h2 := cont_at s i 2
  have h3 := cont_at s i 3
  have g : ∀ k, (s.get! (i + k)).toNat = bt (s.data.toList.drop i) k := fun k => by rw [get_at, bt_drop]
  have hb := bt_lt (s.data.toList.drop i) 0
  have hb1 := bt_lt (s.data.toList.drop i) 1
  have hb2 := bt_lt (s.data.toList.drop i) 2
  unfold Utf8.decode
  simp only [g] at h1 h2 h3
  simp only [g, h1, h2, h3, valid_nat]
  unfold dec
  generalize s.data.toList.drop i = l at *
  clear g h1 h2 h3
  by_cases c0 : bt l 0 < 128
  · simp only [c0, if_true, told]
    constructor
    · split
      · omega
      · rfl
    · trivial
  · simp only [c0, if_false, Bool.and_eq_true, beq_iff_eq, decide_eq_true_eq, ge_iff_le, and_assoc]
    by_cases c1 : bt l 0 / 32 = 6 ∧ ct l 1 = true
    · simp only [c1, and_self, if_true]
      split
      · constructor
        · unfold told; rw [if_neg (by omega)]
        · rfl
      · exact ⟨rfl, rfl⟩
    · rw [if_neg c1, if_neg c1]
      by_cases c2 : bt l 0 / 16 = 14 ∧ ct l 1 = true ∧ ct l 2 = true
      · rw [if_pos c2, if_pos c2]
        by_cases c3 : 2048 ≤ bt l 0 % 16 * 4096 + bt l 1 % 64 * 64 + bt l 2 % 64 ∧ ¬ (55296 ≤ bt l 0 % 16 * 4096 + bt l 1 % 64 * 64 + bt l 2 % 64 ∧ bt l 0 % 16 * 4096 + bt l 1 % 64 * 64 + bt l 2 % 64 ≤ 57343)
        · rw [if_pos ⟨c3.1, c3.2, by omega⟩, if_pos c3]
          constructor
          · unfold told; rw [if_neg (by omega)]
          · rfl
        · rw [if_neg (fun h => c3 ⟨h.1, h.2.1⟩), if_neg c3]
          exact ⟨rfl, rfl⟩
      · rw [if_neg c2, if_neg c2]
        by_cases c4 : bt l 0 / 8 = 30 ∧ ct l 1 = true ∧ ct l 2 = true ∧ ct l 3 = true
        · rw [if_pos c4, if_pos c4]
          by_cases c5 : 65536 ≤ bt l 0 % 8 * 262144 + bt l 1 % 64 * 4096 + bt l 2 % 64 * 64 + bt l 3 % 64 ∧ bt l 0 % 8 * 262144 + bt l 1 % 64 * 4096 + bt l 2 % 64 * 64 + bt l 3 % 64 ≤ 1114111
          · rw [if_pos ⟨c5.1, by omega, c5.2⟩, if_pos c5]
            constructor
            · unfold told; rw [if_neg (by omega)]
            · rfl
          · rw [if_neg (fun h => c5 ⟨h.1, h.2.2⟩), if_neg c5]
            exact ⟨rfl, rfl⟩
        · rw [if_neg c4, if_neg c4]
          exact ⟨rfl, rfl⟩
theorem dec_width (l : List UInt8) (h : l ≠ []) : 1 ≤ (dec l).2 ∧ (dec l).2 ≤ l.length ∧ (dec l).2 ≤ 4 := by
  have h0 : 1 ≤ l.length := by cases l <;> simp_all
  unfold dec
  split
  · exact ⟨by simp, h0, by simp⟩
  · split
    · rename_i c
      have := ct_lt c.2
      split
      · exact ⟨by simp, this, by simp⟩
      · exact ⟨by simp, h0, by simp⟩
    · split
      · rename_i c
        have := ct_lt c.2.2
        split
        · exact ⟨by simp, this, by simp⟩
        · exact ⟨by simp, h0, by simp⟩
      · split
        · rename_i c
          have := ct_lt c.2.2.2
          split
          · exact ⟨by simp, this, by simp⟩
          · exact ⟨by simp, h0, by simp⟩
        · exact ⟨by simp, h0, by simp⟩
/-- what a rune is: an ASCII byte by itself, else none or one from 128 on -/
theorem dec_kind (l : List UInt8) : (bt l 0 < 128 ∧ dec l = (((bt l 0 : Nat) : Int), 1)) ∨ (128 ≤ bt l 0 ∧ ((dec l).1 = -1 ∧ (dec l).2 = 1 ∨ 128 ≤ (dec l).1 ∧ (dec l).1 ≤ 1114111)) := by
  by_cases c0 : bt l 0 < 128
  · exact .inl ⟨c0, by unfold dec; rw [if_pos c0]⟩
  · refine .inr ⟨by omega, ?_⟩
    unfold dec
    rw [if_neg c0]
    split
    · rename_i c
      split
      · exact .inr ⟨by simp; omega, by simp; omega⟩
      · exact .inl ⟨rfl, rfl⟩
    · split
      · split
        · rename_i c; exact .inr ⟨by simp; omega, by simp; omega⟩
        · exact .inl ⟨rfl, rfl⟩
      · split
        · split
          · rename_i c; exact .inr ⟨by simp; omega, by simp; omega⟩
          · exact .inl ⟨rfl, rfl⟩
        · exact .inl ⟨rfl, rfl⟩
/-- the text of U+FFFD -/
def badText : List UInt8 := [239, 191, 189]
theorem bad_prefix (l : List UInt8) : badText.isPrefixOf l = decide (bt l 0 = 239 ∧ bt l 1 = 191 ∧ bt l 2 = 189) := by
  rw [Bool.eq_iff_iff, decide_eq_true_eq, List.isPrefixOf_iff_prefix]
  constructor
  · rintro ⟨t, rfl⟩
    exact ⟨rfl, rfl, rfl⟩
  · rintro ⟨h0, h1, h2⟩
    have k0 : 2 < l.length := by
      rcases Nat.lt_or_ge 2 l.length with h' | h'
      · exact h'
      · rw [bt_none _ _ h'] at h2; omega
    match l, k0, h0, h1, h2 with
    | a :: b :: c :: t, _, h0, h1, h2 =>
      simp only [bt, List.getD_cons_zero, List.getD_cons_succ] at h0 h1 h2
      have e0 : a = 239 := UInt8.toNat_inj.1 h0
      have e1 : b = 191 := UInt8.toNat_inj.1 h1
      have e2 : c = 189 := UInt8.toNat_inj.1 h2
      subst e0 e1 e2
      exact ⟨t, rfl⟩
/-- the text's own U+FFFD is right, and a wrong byte is told as it -/
theorem bad_iff (l : List UInt8) (h : told (dec l).1 = 65533) : badText.isPrefixOf l = false ↔ (dec l).1 = -1 := by
  have hb := bt_lt l 0
  have hb1 := bt_lt l 1
  have hb2 := bt_lt l 2
  have hb3 := bt_lt l 3
  rw [bad_prefix, decide_eq_false_iff_not]
  constructor
  · intro hn
    rcases dec_kind l with ⟨h1, h2⟩ | ⟨h1, h2 | h2⟩
    · rw [h2] at h
      unfold told at h
      split at h <;> simp at h <;> omega
    · exact h2.1
    · exfalso
      apply hn
      have hr : (dec l).1 = 65533 := by
        unfold told at h
        rw [if_neg (by omega)] at h
        exact h
      revert hr
      unfold dec
      rw [if_neg (by omega)]
      split
      · split
        · simp; omega
        · simp
      · split
        · rename_i c
          have c1 : bt l 1 / 64 = 2 := by simpa [ct] using c.2.1
          have c2 : bt l 2 / 64 = 2 := by simpa [ct] using c.2.2
          split
          · intro hr
            simp only [] at hr
            omega
          · simp
        · split
          · split
            · rename_i c
              intro hr
              simp only [] at hr
              omega
            · simp
          · simp
  · rintro h1 ⟨e0, e1, e2⟩
    revert h1
    unfold dec
    rw [if_neg (by omega), if_neg (by omega), if_pos (by refine ⟨by omega, ?_, ?_⟩ <;> unfold ct <;> simp [e1, e2]), if_pos (by omega)]
    simp
    omega

/-- the runes of a text -/
def runesF : Nat → List UInt8 → List Int
  | 0, _ => []
  | _ + 1, [] => []
  | f + 1, c :: t => (dec (c :: t)).1 :: runesF f ((c :: t).drop (dec (c :: t)).2)
def runes (l : List UInt8) : List Int := runesF l.length l
theorem runesF_enough : ∀ (f g : Nat) (l : List UInt8), l.length ≤ f → l.length ≤ g → runesF f l = runesF g l
  | 0, 0, _, _, _ => rfl
  | 0, g + 1, [], _, _ => rfl
  | 0, g + 1, c :: t, h, _ => by simp at h
  | f + 1, 0, [], _, _ => rfl
  | f + 1, 0, c :: t, _, h => by simp at h
  | f + 1, g + 1, [], _, _ => rfl
  | f + 1, g + 1, c :: t, h1, h2 => by
    have hw := dec_width (c :: t) (by simp)
    have hl : ((c :: t).drop (dec (c :: t)).2).length = (c :: t).length - (dec (c :: t)).2 := List.length_drop
    unfold runesF
    rw [runesF_enough f g _ (by omega) (by omega)]
theorem runes_nil : runes [] = [] := rfl
theorem runes_step (l : List UInt8) (h : l ≠ []) : runes l = (dec l).1 :: runes (l.drop (dec l).2) := by
  cases l with
  | nil => exact absurd rfl h
  | cons c t =>
    have hw := dec_width (c :: t) (by simp)
    have hl : ((c :: t).drop (dec (c :: t)).2).length = (c :: t).length - (dec (c :: t)).2 := List.length_drop
    unfold runes
    rw [show runesF (c :: t).length (c :: t) = (dec (c :: t)).1 :: runesF t.length ((c :: t).drop (dec (c :: t)).2) from rfl]
    rw [runesF_enough t.length _ ((c :: t).drop (dec (c :: t)).2) (by simp at hl ⊢; omega) (Nat.le_refl _)]
theorem runes_at (l : List UInt8) (p : Nat) (h : p < l.length) : runes (l.drop p) = (dec (l.drop p)).1 :: runes (l.drop (p + (dec (l.drop p)).2)) := by
  rw [runes_step (l.drop p) (by intro e; have := List.drop_eq_nil_iff.1 e; omega), List.drop_drop]
theorem runes_end (l : List UInt8) (p : Nat) (h : ¬ p < l.length) : runes (l.drop p) = [] := by
  rw [List.drop_eq_nil_of_le (by omega)]; rfl
theorem width_at (l : List UInt8) (p : Nat) (h : p < l.length) : 1 ≤ (dec (l.drop p)).2 ∧ p + (dec (l.drop p)).2 ≤ l.length ∧ (dec (l.drop p)).2 ≤ 4 := by
  have hw := dec_width (l.drop p) (by intro e; have := List.drop_eq_nil_iff.1 e; omega)
  rw [List.length_drop] at hw
  omega
theorem runes_le : ∀ (n : Nat) (l : List UInt8), l.length ≤ n → (runes l).length ≤ l.length
  | 0, [], _ => Nat.le_refl _
  | 0, _ :: _, h => by simp at h
  | n + 1, l, h => by
    by_cases e : l = []
    · subst e; exact Nat.le_refl _
    · have hw := dec_width l e
      rw [runes_step l e]
      have := runes_le n (l.drop (dec l).2) (by rw [List.length_drop]; omega)
      rw [List.length_drop] at this
      simp
      omega
theorem runes_length (l : List UInt8) : (runes l).length ≤ l.length := runes_le _ l (Nat.le_refl _)
/-- of few runes there are few bytes -/
theorem bytes_le : ∀ (n : Nat) (l : List UInt8), l.length ≤ n → l.length ≤ 4 * (runes l).length
  | 0, [], _ => Nat.zero_le _
  | 0, _ :: _, h => by simp at h
  | n + 1, l, h => by
    by_cases e : l = []
    · subst e; exact Nat.zero_le _
    · have hw := dec_width l e
      rw [runes_step l e]
      have := bytes_le n (l.drop (dec l).2) (by rw [List.length_drop]; omega)
      rw [List.length_drop] at this
      simp
      omega
theorem bytes_length (l : List UInt8) : l.length ≤ 4 * (runes l).length := bytes_le _ l (Nat.le_refl _)

def letterB (r : Int) : Bool := decide (97 ≤ r ∧ r ≤ 122 ∨ 65 ≤ r ∧ r ≤ 90 ∨ 128 ≤ r)
def digitB (r : Int) : Bool := decide (48 ≤ r ∧ r ≤ 57)
def bodyB (r : Int) : Bool := letterB r || digitB r || decide (r = 95)
def stemL : List Int → Bool
  | [] => false
  | r :: t => letterB r && t.all bodyB
/-- the bytes ahead of the first @, and those behind it -/
def pre (l : List UInt8) : List UInt8 := l.takeWhile (· != 64)
def hasAt (l : List UInt8) : Bool := l.contains 64
def post (l : List UInt8) : List UInt8 := (l.dropWhile (· != 64)).drop 1
/-- a version's number; 0, if the text is none -/
def verF : Nat → List UInt8 → Nat
  | v, [] => v
  | v, c :: t => if 48 ≤ c.toNat ∧ c.toNat ≤ 57 then (if 10 * v + (c.toNat - 48) = 0 ∨ 999 < 10 * v + (c.toNat - 48) then 0 else verF (10 * v + (c.toNat - 48)) t) else 0
def ver (l : List UInt8) : Nat := verF 0 l
def nameB (l : List UInt8) : Bool := stemL (runes (pre l)) && (!hasAt l || decide (ver (post l) ≠ 0))
/-- what Check tells -/
def chk (l : List UInt8) : Int := if nameB l then (if 24 < (runes l).length then 5 else 0) else 6
/-- the digits of a number below 1000 -/
def digs (n : Nat) : List UInt8 := if n < 10 then [UInt8.ofNat (48 + n)] else if n < 100 then [UInt8.ofNat (48 + n / 10), UInt8.ofNat (48 + n % 10)] else [UInt8.ofNat (48 + n / 100), UInt8.ofNat (48 + n / 10 % 10), UInt8.ofNat (48 + n % 10)]
/-- a name's text of its stem and its version -/
def text (l : List UInt8) (n : Nat) : List UInt8 := if n = 0 then l else l ++ 64 :: digs n
def fold1 (c : UInt8) : UInt8 := if 65 ≤ c.toNat ∧ c.toNat ≤ 90 then UInt8.ofNat (c.toNat + 32) else c
def fold (l : List UInt8) : List UInt8 := l.map fold1
def lessB (a b : List UInt8) : Bool :=
  if chk a = 0 ∧ chk b = 0 then Op.bytesLess (pre a) (pre b) || (pre a == pre b && decide (ver (post a) < ver (post b))) else Op.bytesLess a b
end Go.Proofs.YtenilpofmfcofaaDoor.NM
