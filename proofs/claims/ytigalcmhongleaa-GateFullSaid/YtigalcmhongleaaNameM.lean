/-
  Joined texts: NameMath, NameMath2. Nothing here is a statement of the seed.
-/
import Derived.Laws.RangeString
import Derived.Laws.Runes
import Derived.Laws.Strings
import Derived.Lib.Bytealg
set_option linter.unusedSimpArgs false
set_option linter.unusedVariables false
/-
  Plain facts on texts for the layer name: runes, stems, versions. Nothing of the program is used.
-/
namespace Go.Proofs.Ytigalcmhongleaa.NM

/-- the byte at a place, as a number -/
def bt (l : List UInt8) (k : Nat) : Nat := (l.getD k 0).toNat
theorem bt_lt (l : List UInt8) (k : Nat) : bt l k < 256 := (l.getD k 0).toNat_lt
theorem bt_none (l : List UInt8) (k : Nat) (h : l.length ≤ k) : bt l k = 0 := by
  unfold bt
  rw [List.getD_eq_getElem?_getD, List.getElem?_eq_none h]
  rfl
theorem bt_drop (l : List UInt8) (i k : Nat) : bt (l.drop i) k = bt l (i + k) := by
  unfold bt
  rw [List.getD_eq_getElem?_getD, List.getD_eq_getElem?_getD, List.getElem?_drop]
/-- a byte within a rune -/
def ct (l : List UInt8) (k : Nat) : Bool := bt l k / 64 == 2
theorem ct_lt {l : List UInt8} {k : Nat} (h : ct l k = true) : k < l.length := by
  rcases Nat.lt_or_ge k l.length with h' | h'
  · exact h'
  · unfold ct at h
    rw [bt_none l k h'] at h
    simp at h
/-- the rune that begins a text, -1 of a wrong one, and its bytes -/
def dec (l : List UInt8) : Int × Nat :=
  if bt l 0 < 128 then (((bt l 0 : Nat) : Int), 1)
  else if bt l 0 / 32 = 6 ∧ ct l 1 = true then
    (if 128 ≤ bt l 0 % 32 * 64 + bt l 1 % 64 then ((bt l 0 % 32 * 64 + bt l 1 % 64 : Nat), 2) else (-1, 1))
  else if bt l 0 / 16 = 14 ∧ ct l 1 = true ∧ ct l 2 = true then
    (if 2048 ≤ bt l 0 % 16 * 4096 + bt l 1 % 64 * 64 + bt l 2 % 64 ∧ ¬ (55296 ≤ bt l 0 % 16 * 4096 + bt l 1 % 64 * 64 + bt l 2 % 64 ∧ bt l 0 % 16 * 4096 + bt l 1 % 64 * 64 + bt l 2 % 64 ≤ 57343) then ((bt l 0 % 16 * 4096 + bt l 1 % 64 * 64 + bt l 2 % 64 : Nat), 3) else (-1, 1))
  else if bt l 0 / 8 = 30 ∧ ct l 1 = true ∧ ct l 2 = true ∧ ct l 3 = true then
    (if 65536 ≤ bt l 0 % 8 * 262144 + bt l 1 % 64 * 4096 + bt l 2 % 64 * 64 + bt l 3 % 64 ∧ bt l 0 % 8 * 262144 + bt l 1 % 64 * 4096 + bt l 2 % 64 * 64 + bt l 3 % 64 ≤ 1114111 then ((bt l 0 % 8 * 262144 + bt l 1 % 64 * 4096 + bt l 2 % 64 * 64 + bt l 3 % 64 : Nat), 4) else (-1, 1))
  else (-1, 1)

theorem get_at (s : ByteArray) (i : Nat) : (s.get! i).toNat = bt s.data.toList i := by
  unfold bt
  rw [List.getD_eq_getElem?_getD]
  by_cases h : i < s.size
  · have h' : i < s.data.toList.length := by simpa using h
    rw [List.getElem?_eq_getElem h']
    show (s.get! i).toNat = (s.data.toList[i]).toNat
    have e : s.get! i = s[i]'h := by simp [ByteArray.get!, getElem!_pos, h]; rfl
    rw [e]; rfl
  · have h' : s.data.toList.length ≤ i := by simpa using h
    rw [List.getElem?_eq_none h']
    simp only [ByteArray.get!]
    rw [getElem!_neg]
    · rfl
    · simpa using h
theorem cont_at (s : ByteArray) (i k : Nat) : (decide (i + k < s.size) && (s.get! (i + k)).toNat / 64 == 2) = ct (s.data.toList.drop i) k := by
  rw [get_at]
  unfold ct
  rw [bt_drop]
  by_cases h : i + k < s.size
  · simp [h]
  · have h' : s.data.toList.length ≤ i + k := by simpa using h
    rw [bt_none _ _ h']
    simp
/-- the rune as a range tells it -/
def told (r : Int) : Int := if r < 0 then 65533 else r
theorem valid_nat (c : Nat) : Utf8.valid (c : Int) = decide (¬ (55296 ≤ c ∧ c ≤ 57343) ∧ c ≤ 1114111) := by
  rw [validRune_eq]
  unfold validRune
  rw [Bool.eq_iff_iff]
  simp only [decide_eq_true_eq]
  omega
theorem decode_dec (s : ByteArray) (i : Nat) : ((Utf8.decode s i).1 : Int) = told (dec (s.data.toList.drop i)).1 ∧ (Utf8.decode s i).2 = (dec (s.data.toList.drop i)).2 := by
  have h1 := cont_at s i 1
  have h2 := cont_at s i 2
  have h3 := cont_at s i 3
  have g : ∀ k, (s.get! (i + k)).toNat = bt (s.data.toList.drop i) k := fun k => by rw [get_at, bt_drop]
  have hb := bt_lt (s.data.toList.drop i) 0
  have hb1 := bt_lt (s.data.toList.drop i) 1
  have hb2 := bt_lt (s.data.toList.drop i) 2
  unfold Utf8.decode
  simp only [g] at h1 h2 h3
  simp only [g, h1, h2, h3, valid_nat]
  unfold dec
  generalize s.data.toList.drop i = l at *
  clear g h1 h2 h3
  by_cases c0 : bt l 0 < 128
  · simp only [c0, if_true, told]
    constructor
    · split
      · omega
      · rfl
    · trivial
  · simp only [c0, if_false, Bool.and_eq_true, beq_iff_eq, decide_eq_true_eq, ge_iff_le, and_assoc]
    by_cases c1 : bt l 0 / 32 = 6 ∧ ct l 1 = true
    · simp only [c1, and_self, if_true]
      split
      · constructor
        · unfold told; rw [if_neg (by omega)]
        · rfl
      · exact ⟨rfl, rfl⟩
    · rw [if_neg c1, if_neg c1]
      by_cases c2 : bt l 0 / 16 = 14 ∧ ct l 1 = true ∧ ct l 2 = true
      · rw [if_pos c2, if_pos c2]
        by_cases c3 : 2048 ≤ bt l 0 % 16 * 4096 + bt l 1 % 64 * 64 + bt l 2 % 64 ∧ ¬ (55296 ≤ bt l 0 % 16 * 4096 + bt l 1 % 64 * 64 + bt l 2 % 64 ∧ bt l 0 % 16 * 4096 + bt l 1 % 64 * 64 + bt l 2 % 64 ≤ 57343)
        · rw [if_pos ⟨c3.1, c3.2, by omega⟩, if_pos c3]
          constructor
          · unfold told; rw [if_neg (by omega)]
          · rfl
        · rw [if_neg (fun h => c3 ⟨h.1, h.2.1⟩), if_neg c3]
          exact ⟨rfl, rfl⟩
      · rw [if_neg c2, if_neg c2]
        by_cases c4 : bt l 0 / 8 = 30 ∧ ct l 1 = true ∧ ct l 2 = true ∧ ct l 3 = true
        · rw [if_pos c4, if_pos c4]
          by_cases c5 : 65536 ≤ bt l 0 % 8 * 262144 + bt l 1 % 64 * 4096 + bt l 2 % 64 * 64 + bt l 3 % 64 ∧ bt l 0 % 8 * 262144 + bt l 1 % 64 * 4096 + bt l 2 % 64 * 64 + bt l 3 % 64 ≤ 1114111
          · rw [if_pos ⟨c5.1, by omega, c5.2⟩, if_pos c5]
            constructor
            · unfold told; rw [if_neg (by omega)]
            · rfl
          · rw [if_neg (fun h => c5 ⟨h.1, h.2.2⟩), if_neg c5]
            exact ⟨rfl, rfl⟩
        · rw [if_neg c4, if_neg c4]
          exact ⟨rfl, rfl⟩
theorem dec_width (l : List UInt8) (h : l ≠ []) : 1 ≤ (dec l).2 ∧ (dec l).2 ≤ l.length ∧ (dec l).2 ≤ 4 := by
  have h0 : 1 ≤ l.length := by cases l <;> simp_all
  unfold dec
  split
  · exact ⟨by simp, h0, by simp⟩
  · split
    · rename_i c
      have := ct_lt c.2
      split
      · exact ⟨by simp, this, by simp⟩
      · exact ⟨by simp, h0, by simp⟩
    · split
      · rename_i c
        have := ct_lt c.2.2
        split
        · exact ⟨by simp, this, by simp⟩
        · exact ⟨by simp, h0, by simp⟩
      · split
        · rename_i c
          have := ct_lt c.2.2.2
          split
          · exact ⟨by simp, this, by simp⟩
          · exact ⟨by simp, h0, by simp⟩
        · exact ⟨by simp, h0, by simp⟩
/-- what a rune is: an ASCII byte by itself, else none or one from 128 on -/
theorem dec_kind (l : List UInt8) : (bt l 0 < 128 ∧ dec l = (((bt l 0 : Nat) : Int), 1)) ∨ (128 ≤ bt l 0 ∧ ((dec l).1 = -1 ∧ (dec l).2 = 1 ∨ 128 ≤ (dec l).1 ∧ (dec l).1 ≤ 1114111)) := by
  by_cases c0 : bt l 0 < 128
  · exact .inl ⟨c0, by unfold dec; rw [if_pos c0]⟩
  · refine .inr ⟨by omega, ?_⟩
    unfold dec
    rw [if_neg c0]
    split
    · rename_i c
      split
      · exact .inr ⟨by simp; omega, by simp; omega⟩
      · exact .inl ⟨rfl, rfl⟩
    · split
      · split
        · rename_i c; exact .inr ⟨by simp; omega, by simp; omega⟩
        · exact .inl ⟨rfl, rfl⟩
      · split
        · split
          · rename_i c; exact .inr ⟨by simp; omega, by simp; omega⟩
          · exact .inl ⟨rfl, rfl⟩
        · exact .inl ⟨rfl, rfl⟩
/-- the text of U+FFFD -/
def badText : List UInt8 := [239, 191, 189]
theorem bad_prefix (l : List UInt8) : badText.isPrefixOf l = decide (bt l 0 = 239 ∧ bt l 1 = 191 ∧ bt l 2 = 189) := by
  rw [Bool.eq_iff_iff, decide_eq_true_eq, List.isPrefixOf_iff_prefix]
  constructor
  · rintro ⟨t, rfl⟩
    exact ⟨rfl, rfl, rfl⟩
  · rintro ⟨h0, h1, h2⟩
    have k0 : 2 < l.length := by
      rcases Nat.lt_or_ge 2 l.length with h' | h'
      · exact h'
      · rw [bt_none _ _ h'] at h2; omega
    match l, k0, h0, h1, h2 with
    | a :: b :: c :: t, _, h0, h1, h2 =>
      simp only [bt, List.getD_cons_zero, List.getD_cons_succ] at h0 h1 h2
      have e0 : a = 239 := UInt8.toNat_inj.1 h0
      have e1 : b = 191 := UInt8.toNat_inj.1 h1
      have e2 : c = 189 := UInt8.toNat_inj.1 h2
      subst e0 e1 e2
      exact ⟨t, rfl⟩
/-- the text's own U+FFFD is right, and a wrong byte is told as it -/
theorem bad_iff (l : List UInt8) (h : told (dec l).1 = 65533) : badText.isPrefixOf l = false ↔ (dec l).1 = -1 := by
  have hb := bt_lt l 0
  have hb1 := bt_lt l 1
  have hb2 := bt_lt l 2
  have hb3 := bt_lt l 3
  rw [bad_prefix, decide_eq_false_iff_not]
  constructor
  · intro hn
    rcases dec_kind l with ⟨h1, h2⟩ | ⟨h1, h2 | h2⟩
    · rw [h2] at h
      unfold told at h
      split at h <;> simp at h <;> omega
    · exact h2.1
    · exfalso
      apply hn
      have hr : (dec l).1 = 65533 := by
        unfold told at h
        rw [if_neg (by omega)] at h
        exact h
      revert hr
      unfold dec
      rw [if_neg (by omega)]
      split
      · split
        · simp; omega
        · simp
      · split
        · rename_i c
          have c1 : bt l 1 / 64 = 2 := by simpa [ct] using c.2.1
          have c2 : bt l 2 / 64 = 2 := by simpa [ct] using c.2.2
          split
          · intro hr
            simp only [] at hr
            omega
          · simp
        · split
          · split
            · rename_i c
              intro hr
              simp only [] at hr
              omega
            · simp
          · simp
  · rintro h1 ⟨e0, e1, e2⟩
    revert h1
    unfold dec
    rw [if_neg (by omega), if_neg (by omega), if_pos (by refine ⟨by omega, ?_, ?_⟩ <;> unfold ct <;> simp [e1, e2]), if_pos (by omega)]
    simp
    omega

/-- the runes of a text -/
def runesF : Nat → List UInt8 → List Int
  | 0, _ => []
  | _ + 1, [] => []
  | f + 1, c :: t => (dec (c :: t)).1 :: runesF f ((c :: t).drop (dec (c :: t)).2)
def runes (l : List UInt8) : List Int := runesF l.length l
theorem runesF_enough : ∀ (f g : Nat) (l : List UInt8), l.length ≤ f → l.length ≤ g → runesF f l = runesF g l
  | 0, 0, _, _, _ => rfl
  | 0, g + 1, [], _, _ => rfl
  | 0, g + 1, c :: t, h, _ => by simp at h
  | f + 1, 0, [], _, _ => rfl
  | f + 1, 0, c :: t, _, h => by simp at h
  | f + 1, g + 1, [], _, _ => rfl
  | f + 1, g + 1, c :: t, h1, h2 => by
    have hw := dec_width (c :: t) (by simp)
    have hl : ((c :: t).drop (dec (c :: t)).2).length = (c :: t).length - (dec (c :: t)).2 := List.length_drop
    unfold runesF
    rw [runesF_enough f g _ (by omega) (by omega)]
theorem runes_nil : runes [] = [] := rfl
theorem runes_step (l : List UInt8) (h : l ≠ []) : runes l = (dec l).1 :: runes (l.drop (dec l).2) := by
  cases l with
  | nil => exact absurd rfl h
  | cons c t =>
    have hw := dec_width (c :: t) (by simp)
    have hl : ((c :: t).drop (dec (c :: t)).2).length = (c :: t).length - (dec (c :: t)).2 := List.length_drop
    unfold runes
    rw [show runesF (c :: t).length (c :: t) = (dec (c :: t)).1 :: runesF t.length ((c :: t).drop (dec (c :: t)).2) from rfl]
    rw [runesF_enough t.length _ ((c :: t).drop (dec (c :: t)).2) (by simp at hl ⊢; omega) (Nat.le_refl _)]
theorem runes_at (l : List UInt8) (p : Nat) (h : p < l.length) : runes (l.drop p) = (dec (l.drop p)).1 :: runes (l.drop (p + (dec (l.drop p)).2)) := by
  rw [runes_step (l.drop p) (by intro e; have := List.drop_eq_nil_iff.1 e; omega), List.drop_drop]
theorem runes_end (l : List UInt8) (p : Nat) (h : ¬ p < l.length) : runes (l.drop p) = [] := by
  rw [List.drop_eq_nil_of_le (by omega)]; rfl
theorem width_at (l : List UInt8) (p : Nat) (h : p < l.length) : 1 ≤ (dec (l.drop p)).2 ∧ p + (dec (l.drop p)).2 ≤ l.length ∧ (dec (l.drop p)).2 ≤ 4 := by
  have hw := dec_width (l.drop p) (by intro e; have := List.drop_eq_nil_iff.1 e; omega)
  rw [List.length_drop] at hw
  omega
theorem runes_le : ∀ (n : Nat) (l : List UInt8), l.length ≤ n → (runes l).length ≤ l.length
  | 0, [], _ => Nat.le_refl _
  | 0, _ :: _, h => by simp at h
  | n + 1, l, h => by
    by_cases e : l = []
    · subst e; exact Nat.le_refl _
    · have hw := dec_width l e
      rw [runes_step l e]
      have := runes_le n (l.drop (dec l).2) (by rw [List.length_drop]; omega)
      rw [List.length_drop] at this
      simp
      omega
theorem runes_length (l : List UInt8) : (runes l).length ≤ l.length := runes_le _ l (Nat.le_refl _)
/-- of few runes there are few bytes -/
theorem bytes_le : ∀ (n : Nat) (l : List UInt8), l.length ≤ n → l.length ≤ 4 * (runes l).length
  | 0, [], _ => Nat.zero_le _
  | 0, _ :: _, h => by simp at h
  | n + 1, l, h => by
    by_cases e : l = []
    · subst e; exact Nat.zero_le _
    · have hw := dec_width l e
      rw [runes_step l e]
      have := bytes_le n (l.drop (dec l).2) (by rw [List.length_drop]; omega)
      rw [List.length_drop] at this
      simp
      omega
theorem bytes_length (l : List UInt8) : l.length ≤ 4 * (runes l).length := bytes_le _ l (Nat.le_refl _)

def letterB (r : Int) : Bool := decide (97 ≤ r ∧ r ≤ 122 ∨ 65 ≤ r ∧ r ≤ 90 ∨ 128 ≤ r)
def digitB (r : Int) : Bool := decide (48 ≤ r ∧ r ≤ 57)
def bodyB (r : Int) : Bool := letterB r || digitB r || decide (r = 95)
def stemL : List Int → Bool
  | [] => false
  | r :: t => letterB r && t.all bodyB
/-- the bytes ahead of the first @, and those behind it -/
def pre (l : List UInt8) : List UInt8 := l.takeWhile (· != 64)
def hasAt (l : List UInt8) : Bool := l.contains 64
def post (l : List UInt8) : List UInt8 := (l.dropWhile (· != 64)).drop 1
/-- a version's number; 0, if the text is none -/
def verF : Nat → List UInt8 → Nat
  | v, [] => v
  | v, c :: t => if 48 ≤ c.toNat ∧ c.toNat ≤ 57 then (if 10 * v + (c.toNat - 48) = 0 ∨ 999 < 10 * v + (c.toNat - 48) then 0 else verF (10 * v + (c.toNat - 48)) t) else 0
def ver (l : List UInt8) : Nat := verF 0 l
def nameB (l : List UInt8) : Bool := stemL (runes (pre l)) && (!hasAt l || decide (ver (post l) ≠ 0))
/-- what Check tells -/
def chk (l : List UInt8) : Int := if nameB l then (if 24 < (runes l).length then 5 else 0) else 6
/-- the digits of a number below 1000 -/
def digs (n : Nat) : List UInt8 := if n < 10 then [UInt8.ofNat (48 + n)] else if n < 100 then [UInt8.ofNat (48 + n / 10), UInt8.ofNat (48 + n % 10)] else [UInt8.ofNat (48 + n / 100), UInt8.ofNat (48 + n / 10 % 10), UInt8.ofNat (48 + n % 10)]
/-- a name's text of its stem and its version -/
def text (l : List UInt8) (n : Nat) : List UInt8 := if n = 0 then l else l ++ 64 :: digs n
def fold1 (c : UInt8) : UInt8 := if 65 ≤ c.toNat ∧ c.toNat ≤ 90 then UInt8.ofNat (c.toNat + 32) else c
def fold (l : List UInt8) : List UInt8 := l.map fold1
def lessB (a b : List UInt8) : Bool :=
  if chk a = 0 ∧ chk b = 0 then Op.bytesLess (pre a) (pre b) || (pre a == pre b && decide (ver (post a) < ver (post b))) else Op.bytesLess a b
end Go.Proofs.Ytigalcmhongleaa.NM

/-
  Plain facts on names: versions as digits, what stands about the @, order, small letters. Nothing of the program is used.
-/
namespace Go.Proofs.Ytigalcmhongleaa.NM

/-- a text of so many bytes -/
def bs (l : List UInt8) : ByteArray := ⟨l.toArray⟩
theorem bs_list (l : List UInt8) : (bs l).data.toList = l := rfl
theorem bs_of (s : ByteArray) : bs s.data.toList = s := rfl
theorem bs_size (l : List UInt8) : (bs l).size = l.length := by simp [bs, ByteArray.size]
theorem bs_ex (s : ByteArray) : ∃ l, s = bs l := ⟨s.data.toList, rfl⟩
theorem size_list (s : ByteArray) : s.data.toList.length = s.size := by rw [Array.length_toList]; rfl

/-- the reference's way to a version -/
def verG : Nat → List UInt8 → Nat
  | v, [] => v
  | v, c :: t => if 48 ≤ c.toNat ∧ c.toNat ≤ 57 then verG (10 * v + (c.toNat - 48)) t else 0
def verR (l : List UInt8) : Nat := if l.length < 1 ∨ 3 < l.length ∨ bt l 0 = 48 then 0 else verG 0 l
theorem verF_hi : ∀ (t : List UInt8) (v : Nat), 100 ≤ v → t ≠ [] → verF v t = 0
  | [], _, _, h => absurd rfl h
  | c :: t, v, hv, _ => by
    unfold verF
    split
    · rw [if_pos (by omega)]
    · rfl
theorem ver_ref (l : List UInt8) : ver l = verR l := by
  unfold ver verR
  match l with
  | [] => rfl
  | [a] =>
    simp only [verF, verG, bt, List.length_cons, List.length_nil, List.getD_cons_zero]
    repeat' split
    all_goals first | rfl | omega
  | [a, b] =>
    simp only [verF, verG, bt, List.length_cons, List.length_nil, List.getD_cons_zero]
    repeat' split
    all_goals first | rfl | omega
  | [a, b, c] =>
    simp only [verF, verG, bt, List.length_cons, List.length_nil, List.getD_cons_zero]
    repeat' split
    all_goals first | rfl | omega
  | a :: b :: c :: d :: t =>
    rw [if_pos (by simp)]
    simp only [verF]
    repeat' split
    all_goals first | rfl | omega | (rename_i h1 h2 h3 h4 h5 h6; omega)
theorem verF_le : ∀ (t : List UInt8) (v : Nat), v ≤ 999 → verF v t ≤ 999
  | [], v, h => h
  | c :: t, v, h => by
    unfold verF
    split
    · split
      · omega
      · exact verF_le t _ (by omega)
    · omega
theorem ver_le (l : List UInt8) : ver l ≤ 999 := verF_le l 0 (by omega)
theorem u8_of (n : Nat) (h : n < 256) : (UInt8.ofNat n).toNat = n := by simp; omega
theorem u8_eq {c : UInt8} {n : Nat} (h : n < 256) (e : c.toNat = n) : c = UInt8.ofNat n := by
  apply UInt8.toNat_inj.1
  rw [u8_of n h, e]
theorem ver_digs (n : Nat) (h : 1 ≤ n ∧ n ≤ 999) : ver (digs n) = n := by
  unfold ver digs
  split
  · simp only [verF, u8_of (48 + n) (by omega)]
    rw [if_pos (by omega), if_neg (by omega)]
    omega
  · split
    · simp only [verF, u8_of (48 + n / 10) (by omega), u8_of (48 + n % 10) (by omega)]
      rw [if_pos (by omega), if_neg (by omega), if_pos (by omega), if_neg (by omega)]
      omega
    · simp only [verF, u8_of (48 + n / 100) (by omega), u8_of (48 + n / 10 % 10) (by omega), u8_of (48 + n % 10) (by omega)]
      rw [if_pos (by omega), if_neg (by omega), if_pos (by omega), if_neg (by omega), if_pos (by omega), if_neg (by omega)]
      omega
theorem digs_ver (l : List UInt8) (h : ver l ≠ 0) : l = digs (ver l) := by
  rw [ver_ref] at h ⊢
  unfold verR at h ⊢
  match l with
  | [] => simp at h
  | [a] =>
    simp only [verG, bt, List.length_cons, List.length_nil, List.getD_cons_zero] at h ⊢
    have ha := a.toNat_lt
    by_cases c1 : 48 ≤ a.toNat ∧ a.toNat ≤ 57
    · by_cases c0 : a.toNat = 48
      · simp [c0] at h
      · rw [if_neg (by omega), if_pos c1]
        unfold digs
        rw [if_pos (by omega)]
        rw [← u8_eq (c := a) (by omega) (by omega)]
    · simp [c1] at h
  | [a, b] =>
    simp only [verG, bt, List.length_cons, List.length_nil, List.getD_cons_zero] at h ⊢
    by_cases c0 : a.toNat = 48
    · simp [c0] at h
    · by_cases c1 : 48 ≤ a.toNat ∧ a.toNat ≤ 57
      · by_cases c2 : 48 ≤ b.toNat ∧ b.toNat ≤ 57
        · rw [if_neg (by omega), if_pos c1, if_pos c2]
          unfold digs
          rw [if_neg (by omega), if_pos (by omega)]
          rw [← u8_eq (c := a) (by omega) (by omega), ← u8_eq (c := b) (by omega) (by omega)]
        · simp [c1, c2] at h
      · simp [c1] at h
  | [a, b, c] =>
    simp only [verG, bt, List.length_cons, List.length_nil, List.getD_cons_zero] at h ⊢
    by_cases c0 : a.toNat = 48
    · simp [c0] at h
    · by_cases c1 : 48 ≤ a.toNat ∧ a.toNat ≤ 57
      · by_cases c2 : 48 ≤ b.toNat ∧ b.toNat ≤ 57
        · by_cases c3 : 48 ≤ c.toNat ∧ c.toNat ≤ 57
          · rw [if_neg (by omega), if_pos c1, if_pos c2, if_pos c3]
            unfold digs
            rw [if_neg (by omega), if_neg (by omega)]
            rw [← u8_eq (c := a) (by omega) (by omega), ← u8_eq (c := b) (by omega) (by omega), ← u8_eq (c := c) (by omega) (by omega)]
          · simp [c1, c2, c3] at h
        · simp [c1, c2] at h
      · simp [c1] at h
  | a :: b :: c :: d :: t => rw [if_pos (by simp)] at h; exact absurd rfl h

theorem pre_eq : ∀ (l : List UInt8), l = if hasAt l then pre l ++ 64 :: post l else pre l
  | [] => rfl
  | c :: t => by
    have ih := pre_eq t
    unfold hasAt pre post at *
    by_cases h : c = 64
    · subst h; simp
    · have h' : (c != 64) = true := by simpa using h
      have h2 : (64 == c) = false := by simpa using fun e => h e.symm
      rw [List.contains_cons, h2, Bool.false_or, List.takeWhile_cons, h', List.dropWhile_cons, h']
      simp only [if_true]
      split
      · rename_i h3
        rw [if_pos h3] at ih
        rw [List.cons_append, ← ih]
      · rename_i h3
        rw [if_neg h3] at ih
        rw [← ih]
theorem pre_none : ∀ (l : List UInt8), hasAt l = false → pre l = l ∧ post l = []
  | [], _ => ⟨rfl, rfl⟩
  | c :: t, h => by
    unfold hasAt at h
    rw [List.contains_cons, Bool.or_eq_false_iff] at h
    have h' : (c != 64) = true := by
      have := h.1
      simp at this ⊢
      exact fun e => this e.symm
    obtain ⟨i1, i2⟩ := pre_none t h.2
    unfold pre post at *
    rw [List.takeWhile_cons, h', List.dropWhile_cons, h']
    simp only [if_true]
    exact ⟨by rw [i1], i2⟩
theorem pre_app : ∀ (l t : List UInt8), hasAt l = false → pre (l ++ 64 :: t) = l ∧ post (l ++ 64 :: t) = t ∧ hasAt (l ++ 64 :: t) = true
  | [], t, _ => ⟨rfl, rfl, rfl⟩
  | c :: l, t, h => by
    unfold hasAt at h
    rw [List.contains_cons, Bool.or_eq_false_iff] at h
    have h' : (c != 64) = true := by
      have := h.1
      simp at this ⊢
      exact fun e => this e.symm
    obtain ⟨i1, i2, i3⟩ := pre_app l t h.2
    unfold pre post hasAt at *
    rw [List.cons_append, List.takeWhile_cons, h', List.dropWhile_cons, h', List.contains_cons, i3]
    simp only [if_true]
    exact ⟨by rw [i1], i2, by simp⟩
theorem pre_hasAt : ∀ (l : List UInt8), hasAt (pre l) = false
  | [] => rfl
  | c :: t => by
    have ih := pre_hasAt t
    unfold pre hasAt at *
    rw [List.takeWhile_cons]
    split
    · rename_i h
      rw [List.contains_cons, ih]
      simp at h ⊢
      exact fun e => h e.symm
    · rfl
theorem index_none : ∀ (l : List UInt8), hasAt l = false → Lib.indexByte l 64 = -1
  | [], _ => rfl
  | c :: t, h => by
    unfold hasAt at h
    rw [List.contains_cons, Bool.or_eq_false_iff] at h
    have h' : (c == 64) = false := by
      have := h.1
      simp at this ⊢
      exact fun e => this e.symm
    unfold Lib.indexByte
    rw [h', index_none t h.2]
    rfl
theorem index_some : ∀ (l : List UInt8), hasAt l = true → Lib.indexByte l 64 = ((pre l).length : Nat)
  | [], h => by cases h
  | c :: t, h => by
    unfold Lib.indexByte
    by_cases e : c = 64
    · subst e; rfl
    · have e1 : (c == 64) = false := by simpa using e
      have e2 : (c != 64) = true := by simpa using e
      have h2 : hasAt t = true := by
        unfold hasAt at h ⊢
        rw [List.contains_cons] at h
        have : (64 == c) = false := by simpa using fun e' => e e'.symm
        rwa [this, Bool.false_or] at h
      have ih := index_some t h2
      unfold pre at *
      rw [e1, ih, List.takeWhile_cons, e2]
      simp
theorem pre_len (l : List UInt8) (h : hasAt l = true) : (pre l).length < l.length := by
  have := pre_eq l
  rw [if_pos h] at this
  rw [this, List.length_append]
  have := (pre_app (pre l) (post l) (pre_hasAt l)).1
  rw [this]
  simp
theorem pre_len_le (l : List UInt8) : (pre l).length ≤ l.length := by
  cases h : hasAt l with
  | true => exact Nat.le_of_lt (pre_len l h)
  | false => rw [(pre_none l h).1]; exact Nat.le_refl _
theorem take_pre (l : List UInt8) : l.take (pre l).length = pre l := by
  have e := pre_eq l
  cases h : hasAt l with
  | true =>
    rw [if_pos h] at e
    have : (pre l ++ 64 :: post l).take (pre l).length = pre l := by simp
    rwa [← e] at this
  | false => rw [(pre_none l h).1]; simp
theorem drop_post (l : List UInt8) (h : hasAt l = true) : l.drop ((pre l).length + 1) = post l := by
  have e := pre_eq l
  rw [if_pos h] at e
  have : (pre l ++ 64 :: post l).drop ((pre l).length + 1) = post l := by simp
  rwa [← e] at this
theorem extract_pre (s : ByteArray) : s.extract 0 (pre s.data.toList).length = bs (pre s.data.toList) := by
  apply ByteArray.ext
  apply Array.toList_inj.1
  rw [ByteArray.data_extract, Array.toList_extract]
  simp only [List.extract_eq_take_drop, Nat.sub_zero, List.drop_zero]
  exact take_pre _
theorem extract_from (s : ByteArray) (i : Nat) : s.extract i s.size = bs (s.data.toList.drop i) := by
  apply ByteArray.ext
  apply Array.toList_inj.1
  rw [ByteArray.data_extract, Array.toList_extract]
  simp only [List.extract_eq_take_drop]
  rw [List.take_of_length_le (by rw [List.length_drop, size_list]; exact Nat.le_refl _)]
  rfl
theorem extract_post (s : ByteArray) (h : hasAt s.data.toList = true) : s.extract ((pre s.data.toList).length + 1) s.size = bs (post s.data.toList) := by
  rw [extract_from, drop_post _ h]

/-- a name is its text again -/
theorem text_name (l : List UInt8) (h : nameB l = true) : text (pre l) (ver (post l)) = l := by
  unfold nameB at h
  rw [Bool.and_eq_true] at h
  have e := pre_eq l
  cases ha : hasAt l with
  | true =>
    rw [if_pos ha] at e
    rw [ha] at h
    have hv : ver (post l) ≠ 0 := by simpa using h.2
    unfold text
    rw [if_neg hv, ← digs_ver _ hv, ← e]
  | false =>
    rw [(pre_none l ha).1, (pre_none l ha).2]
    rfl
theorem text_pre (l : List UInt8) (n : Nat) (h : hasAt l = false) (hn : n ≤ 999) : pre (text l n) = l ∧ ver (post (text l n)) = n ∧ hasAt (text l n) = decide (n ≠ 0) := by
  unfold text
  by_cases h0 : n = 0
  · subst h0
    rw [if_pos rfl, (pre_none l h).1, (pre_none l h).2, h]
    exact ⟨rfl, rfl, rfl⟩
  · rw [if_neg h0]
    obtain ⟨h1, h2, h3⟩ := pre_app l (digs n) h
    rw [h1, h2, h3, ver_digs n ⟨by omega, hn⟩]
    exact ⟨rfl, rfl, by simp [h0]⟩
theorem text_same (a b : List UInt8) (ha : nameB a = true) (hb : nameB b = true) (h1 : pre a = pre b) (h2 : ver (post a) = ver (post b)) : a = b := by
  rw [← text_name a ha, ← text_name b hb, h1, h2]
theorem chk_name (l : List UInt8) (h : chk l = 0) : nameB l = true := by
  unfold chk at h
  split at h
  · assumption
  · cases h
theorem chk_short (l : List UInt8) (h : chk l = 0) : l.length ≤ 96 := by
  have hb := bytes_length l
  unfold chk at h
  split at h
  · split at h
    · cases h
    · omega
  · cases h
theorem chk_cases (l : List UInt8) : chk l = 0 ∨ chk l = 5 ∨ chk l = 6 := by
  unfold chk
  split
  · split
    · exact .inr (.inl rfl)
    · exact .inl rfl
  · exact .inr (.inr rfl)
theorem chk_bad (l : List UInt8) (h : nameB l = false) : chk l = 6 := by unfold chk; rw [h]; rfl

theorem less_irr : ∀ (a : List UInt8), Op.bytesLess a a = false
  | [] => rfl
  | c :: t => by unfold Op.bytesLess; rw [less_irr t]; simp
theorem less_asym : ∀ (a b : List UInt8), Op.bytesLess a b = true → Op.bytesLess b a = false
  | _, [], h => by unfold Op.bytesLess at h; cases h
  | [], _ :: _, _ => rfl
  | a :: x, b :: y, h => by
    unfold Op.bytesLess at h ⊢
    simp only [Bool.or_eq_true, Bool.and_eq_true, decide_eq_true_eq, beq_iff_eq] at h
    simp only [Bool.or_eq_false_iff, Bool.and_eq_false_imp, decide_eq_false_iff_not, beq_iff_eq]
    rcases h with h | ⟨rfl, h⟩
    · exact ⟨by rw [UInt8.not_lt]; exact UInt8.le_of_lt h, fun e => absurd h (by subst e; exact UInt8.lt_irrefl _)⟩
    · exact ⟨UInt8.lt_irrefl _, fun _ => less_asym x y h⟩
theorem less_tri : ∀ (a b : List UInt8), Op.bytesLess a b = false → Op.bytesLess b a = false → a = b
  | [], [], _, _ => rfl
  | [], _ :: _, h, _ => by unfold Op.bytesLess at h; cases h
  | _ :: _, [], _, h => by unfold Op.bytesLess at h; cases h
  | a :: x, b :: y, h1, h2 => by
    unfold Op.bytesLess at h1 h2
    simp only [Bool.or_eq_false_iff, Bool.and_eq_false_imp, decide_eq_false_iff_not, beq_iff_eq] at h1 h2
    have e : a = b := UInt8.le_antisymm (UInt8.not_lt.1 h2.1) (UInt8.not_lt.1 h1.1)
    rw [less_tri x y (h1.2 e) (h2.2 e.symm), e]
theorem less_trans : ∀ (a b c : List UInt8), Op.bytesLess a b = true → Op.bytesLess b c = true → Op.bytesLess a c = true
  | _, [], _, h, _ => by unfold Op.bytesLess at h; cases h
  | _, _ :: _, [], _, h => by unfold Op.bytesLess at h; cases h
  | [], _ :: _, _ :: _, _, _ => rfl
  | a :: x, b :: y, c :: z, h1, h2 => by
    unfold Op.bytesLess at h1 h2 ⊢
    simp only [Bool.or_eq_true, Bool.and_eq_true, decide_eq_true_eq, beq_iff_eq] at h1 h2 ⊢
    rcases h1 with h1 | ⟨rfl, h1⟩
    · rcases h2 with h2 | ⟨rfl, h2⟩
      · exact .inl (UInt8.lt_trans h1 h2)
      · exact .inl h1
    · rcases h2 with h2 | ⟨rfl, h2⟩
      · exact .inl h2
      · exact .inr ⟨rfl, less_trans x y z h1 h2⟩
theorem lessB_irr (a : List UInt8) : lessB a a = false := by
  unfold lessB
  split
  · simp [less_irr]
  · exact less_irr a
theorem lessB_names (a b : List UInt8) (ha : chk a = 0) (hb : chk b = 0) : lessB a b = (Op.bytesLess (pre a) (pre b) || (pre a == pre b && decide (ver (post a) < ver (post b)))) := by
  unfold lessB; rw [if_pos ⟨ha, hb⟩]
theorem lessB_iff (a b : List UInt8) (ha : chk a = 0) (hb : chk b = 0) : lessB a b = true ↔ Op.bytesLess (pre a) (pre b) = true ∨ pre a = pre b ∧ ver (post a) < ver (post b) := by
  rw [lessB_names a b ha hb]; simp
theorem lessB_asym (a b : List UInt8) (ha : chk a = 0) (hb : chk b = 0) : lessB a b = true → lessB b a = false := by
  intro h
  rw [lessB_iff a b ha hb] at h
  rw [lessB_names b a hb ha]
  rcases h with h | ⟨h1, h2⟩
  · rw [less_asym _ _ h]
    have : pre b ≠ pre a := fun e => by rw [e, less_irr] at h; cases h
    simp [this]
  · rw [h1, less_irr]
    simp; omega
theorem lessB_tri (a b : List UInt8) (ha : chk a = 0) (hb : chk b = 0) (hn : a ≠ b) : lessB a b = true ∨ lessB b a = true := by
  rw [lessB_iff a b ha hb, lessB_iff b a hb ha]
  cases h1 : Op.bytesLess (pre a) (pre b) with
  | true => exact .inl (.inl rfl)
  | false =>
    cases h2 : Op.bytesLess (pre b) (pre a) with
    | true => exact .inr (.inl rfl)
    | false =>
      have e := less_tri _ _ h1 h2
      have hv : ver (post a) ≠ ver (post b) := fun e2 => hn (text_same a b (chk_name a ha) (chk_name b hb) e e2)
      rcases Nat.lt_or_gt_of_ne hv with h | h
      · exact .inl (.inr ⟨e, h⟩)
      · exact .inr (.inr ⟨e.symm, h⟩)
theorem lessB_trans (a b c : List UInt8) (ha : chk a = 0) (hb : chk b = 0) (hc : chk c = 0) : lessB a b = true → lessB b c = true → lessB a c = true := by
  rw [lessB_iff a b ha hb, lessB_iff b c hb hc, lessB_iff a c ha hc]
  rintro (h | ⟨h1, h2⟩) (h' | ⟨h1', h2'⟩)
  · exact .inl (less_trans _ _ _ h h')
  · exact .inl (by rw [← h1']; exact h)
  · exact .inl (by rw [h1]; exact h')
  · exact .inr ⟨h1.trans h1', by omega⟩

theorem fold1_lt (c : UInt8) : (fold1 c).toNat = if 65 ≤ c.toNat ∧ c.toNat ≤ 90 then c.toNat + 32 else c.toNat := by
  unfold fold1
  split
  · exact u8_of _ (by omega)
  · rfl
theorem fold1_fold1 (c : UInt8) : fold1 (fold1 c) = fold1 c := by
  apply UInt8.toNat_inj.1
  rw [fold1_lt, fold1_lt]
  repeat' split
  all_goals omega
theorem fold_fold (l : List UInt8) : fold (fold l) = fold l := by
  unfold fold
  rw [List.map_map]
  apply List.map_congr_left
  intro c _
  exact fold1_fold1 c
theorem fold_length (l : List UInt8) : (fold l).length = l.length := List.length_map _
theorem fold_drop (l : List UInt8) (i : Nat) : fold (l.drop i) = (fold l).drop i := List.map_drop.symm ▸ rfl
theorem bt_fold (l : List UInt8) (k : Nat) : bt (fold l) k = if 65 ≤ bt l k ∧ bt l k ≤ 90 then bt l k + 32 else bt l k := by
  unfold bt fold
  rw [List.getD_eq_getElem?_getD, List.getD_eq_getElem?_getD, List.getElem?_map]
  cases l[k]? with
  | none => rfl
  | some c => exact fold1_lt c
theorem ct_fold (l : List UInt8) (k : Nat) : ct (fold l) k = ct l k := by
  unfold ct
  rw [bt_fold, Bool.eq_iff_iff]
  simp only [beq_iff_eq]
  split <;> omega
theorem bt_fold_hi (l : List UInt8) (k : Nat) (h : 128 ≤ bt l k) : bt (fold l) k = bt l k := by
  rw [bt_fold, if_neg (by omega)]
theorem ct_hi {l : List UInt8} {k : Nat} (h : ct l k = true) : 128 ≤ bt l k := by
  unfold ct at h
  have : bt l k / 64 = 2 := by simpa using h
  omega
/-- a rune in small letters -/
def foldR (r : Int) : Int := if 65 ≤ r ∧ r ≤ 90 then r + 32 else r
theorem dec_fold (l : List UInt8) : dec (fold l) = (foldR (dec l).1, (dec l).2) := by
  by_cases h0 : bt l 0 < 128
  · have e : dec l = (((bt l 0 : Nat) : Int), 1) := by unfold dec; rw [if_pos h0]
    have h1 : bt (fold l) 0 < 128 := by rw [bt_fold]; split <;> omega
    have e1 : dec (fold l) = (((bt (fold l) 0 : Nat) : Int), 1) := by unfold dec; rw [if_pos h1]
    rw [e, e1, bt_fold]
    unfold foldR
    congr 1
    simp only []
    split <;> split <;> omega
  · have b0 : bt (fold l) 0 = bt l 0 := bt_fold_hi l 0 (by omega)
    have hR : ∀ r : Int, (r = -1 ∨ 128 ≤ r) → foldR r = r := fun r hr => by unfold foldR; rw [if_neg (by omega)]
    have hk : foldR (dec l).1 = (dec l).1 := by
      rcases dec_kind l with ⟨h, _⟩ | ⟨_, ⟨h, _⟩ | ⟨h, _⟩⟩
      · omega
      · exact hR _ (.inl h)
      · exact hR _ (.inr h)
    rw [hk]
    unfold dec
    rw [b0, ct_fold, ct_fold, ct_fold, if_neg h0, if_neg h0]
    by_cases c1 : ct l 1 = true
    · have b1 := bt_fold_hi l 1 (ct_hi c1)
      rw [b1]
      by_cases c2 : ct l 2 = true
      · have b2 := bt_fold_hi l 2 (ct_hi c2)
        rw [b2]
        by_cases c3 : ct l 3 = true
        · rw [bt_fold_hi l 3 (ct_hi c3)]
        · rw [if_neg (c := bt l 0 / 8 = 30 ∧ ct l 1 = true ∧ ct l 2 = true ∧ ct l 3 = true) (fun h => c3 h.2.2.2), if_neg (c := bt l 0 / 8 = 30 ∧ ct l 1 = true ∧ ct l 2 = true ∧ ct l 3 = true) (fun h => c3 h.2.2.2)]
      · rw [if_neg (c := bt l 0 / 16 = 14 ∧ ct l 1 = true ∧ ct l 2 = true) (fun h => c2 h.2.2), if_neg (c := bt l 0 / 16 = 14 ∧ ct l 1 = true ∧ ct l 2 = true) (fun h => c2 h.2.2),
          if_neg (c := bt l 0 / 8 = 30 ∧ ct l 1 = true ∧ ct l 2 = true ∧ ct l 3 = true) (fun h => c2 h.2.2.1), if_neg (c := bt l 0 / 8 = 30 ∧ ct l 1 = true ∧ ct l 2 = true ∧ ct l 3 = true) (fun h => c2 h.2.2.1)]
    · rw [if_neg (fun h => c1 h.2), if_neg (fun h => c1 h.2.1), if_neg (fun h => c1 h.2.1), if_neg (fun h => c1 h.2), if_neg (fun h => c1 h.2.1), if_neg (fun h => c1 h.2.1)]
theorem runes_fold_n : ∀ (n : Nat) (l : List UInt8), l.length ≤ n → runes (fold l) = (runes l).map foldR
  | _, [], _ => rfl
  | 0, _ :: _, h => by simp at h
  | n + 1, c :: t, h => by
    have hw := dec_width (c :: t) (by simp)
    rw [runes_step (c :: t) (by simp), runes_step (fold (c :: t)) (by simp [fold]), dec_fold, List.map_cons]
    simp only []
    rw [← fold_drop, runes_fold_n n _ (by rw [List.length_drop]; omega)]
theorem runes_fold (l : List UInt8) : runes (fold l) = (runes l).map foldR := runes_fold_n _ l (Nat.le_refl _)
theorem letter_foldR (r : Int) : letterB (foldR r) = letterB r := by
  unfold letterB foldR
  rw [Bool.eq_iff_iff]
  simp only [decide_eq_true_eq]
  split <;> omega
theorem body_foldR (r : Int) : bodyB (foldR r) = bodyB r := by
  unfold bodyB
  rw [letter_foldR]
  unfold digitB foldR
  rw [Bool.eq_iff_iff]
  simp only [Bool.or_eq_true, decide_eq_true_eq]
  split
  · have : letterB r = true := by unfold letterB; simp; omega
    simp [this]
  · exact Iff.rfl
theorem stem_fold (l : List Int) : stemL (l.map foldR) = stemL l := by
  cases l with
  | nil => rfl
  | cons r t =>
    simp only [List.map_cons, stemL, letter_foldR, List.all_map]
    congr 1
    rw [Bool.eq_iff_iff]
    simp [List.all_eq_true, body_foldR]
theorem fold1_at (c : UInt8) : (fold1 c == 64) = (c == 64) := by
  rw [Bool.eq_iff_iff, beq_iff_eq, beq_iff_eq]
  constructor
  · intro h
    have := congrArg UInt8.toNat h
    rw [fold1_lt] at this
    apply UInt8.toNat_inj.1
    split at this
    · simp at this; omega
    · exact this
  · rintro rfl; rfl
theorem pre_fold : ∀ (l : List UInt8), pre (fold l) = fold (pre l) ∧ hasAt (fold l) = hasAt l ∧ post (fold l) = fold (post l)
  | [] => ⟨rfl, rfl, rfl⟩
  | c :: t => by
    obtain ⟨i1, i2, i3⟩ := pre_fold t
    have e := fold1_at c
    unfold pre hasAt post fold at *
    rw [List.map_cons, List.takeWhile_cons, List.takeWhile_cons, List.contains_cons, List.contains_cons, List.dropWhile_cons, List.dropWhile_cons, i2]
    have e' : (fold1 c != 64) = (c != 64) := by simp only [bne, e]
    have e'' : ((64 : UInt8) == fold1 c) = (64 == c) := by rw [BEq.comm, e, BEq.comm]
    rw [e', e'']
    refine ⟨?_, rfl, ?_⟩
    · split
      · rw [i1]; rfl
      · rfl
    · split
      · exact i3
      · rfl
theorem verF_fold : ∀ (l : List UInt8) (v : Nat), verF v (fold l) = verF v l
  | [], _ => rfl
  | c :: t, v => by
    have h := fold1_lt c
    show verF v (fold1 c :: fold t) = _
    unfold verF
    by_cases c1 : 48 ≤ c.toNat ∧ c.toNat ≤ 57
    · rw [if_neg (by omega)] at h
      rw [h, verF_fold t]
    · rw [if_neg c1, if_neg (by split at h <;> omega)]
theorem ver_fold (l : List UInt8) : ver (fold l) = ver l := verF_fold l 0
theorem name_fold (l : List UInt8) : nameB (fold l) = nameB l := by
  obtain ⟨h1, h2, h3⟩ := pre_fold l
  unfold nameB
  rw [h1, h2, h3, runes_fold, stem_fold, ver_fold]
theorem chk_fold (l : List UInt8) : chk (fold l) = chk l := by
  unfold chk
  rw [name_fold, runes_fold, List.length_map]
end Go.Proofs.Ytigalcmhongleaa.NM
