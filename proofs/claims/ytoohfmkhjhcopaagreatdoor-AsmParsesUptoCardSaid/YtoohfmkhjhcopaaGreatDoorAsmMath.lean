/-
  Plain facts on lines of instructions: parts between bytes, digits, what is printed and what is guessed. Nothing of the program is used.
-/
import Derived.Test.YtoohfmkhjhcopaaGreatDoorIsaMath
import Derived.Lib.ItoaNum
import Derived.Lib.ParseIntB
import Derived.Lib.TrimByte
import Derived.Lib.Strings
import Derived.Lib.Bytealg
import Derived.Laws.Concat
set_option linter.unusedSimpArgs false
set_option linter.unusedVariables false
namespace Go.Proofs.YtoohfmkhjhcopaaGreatDoor.AM
open IM

def bs (l : List UInt8) : ByteArray := ⟨l.toArray⟩
theorem bs_list (l : List UInt8) : (bs l).data.toList = l := rfl
theorem bs_of (s : ByteArray) : bs s.data.toList = s := rfl
theorem bs_size (l : List UInt8) : (bs l).size = l.length := by simp [bs, ByteArray.size]
theorem size_list (s : ByteArray) : s.data.toList.length = s.size := by rw [Array.length_toList]; rfl
theorem app_bs (a b : List UInt8) : bs a ++ bs b = bs (a ++ b) := ByteArray.mk_append_mk a b
theorem bs_inj {a b : List UInt8} (h : bs a = bs b) : a = b := by rw [← bs_list a, h]; rfl

/-! what stands ahead of a byte, and behind it -/
def pre (c : UInt8) (l : List UInt8) : List UInt8 := l.takeWhile (· != c)
def post (c : UInt8) (l : List UInt8) : List UInt8 := (l.dropWhile (· != c)).drop 1
theorem pre_app {c : UInt8} : ∀ {a r : List UInt8}, c ∉ a → pre c (a ++ c :: r) = a ∧ post c (a ++ c :: r) = r
  | [], r, _ => by simp [pre, post]
  | b :: a, r, h => by
    have hb : (b != c) = true := by simpa using fun e => h (by simp [e])
    have ih := pre_app (c := c) (a := a) (r := r) (fun h' => h (List.mem_cons_of_mem _ h'))
    unfold pre post at ih ⊢
    rw [List.cons_append, List.takeWhile_cons, List.dropWhile_cons, hb]
    simpa using ih
theorem pre_none {c : UInt8} : ∀ {a : List UInt8}, c ∉ a → pre c a = a ∧ post c a = []
  | [], _ => by simp [pre, post]
  | b :: a, h => by
    have hb : (b != c) = true := by simpa using fun e => h (by simp [e])
    have ih := pre_none (c := c) (a := a) (fun h' => h (List.mem_cons_of_mem _ h'))
    unfold pre post at ih ⊢
    rw [List.takeWhile_cons, List.dropWhile_cons, hb]
    simpa using ih
theorem pre_eq {c : UInt8} : ∀ {l : List UInt8}, c ∈ l → l = pre c l ++ c :: post c l
  | [], h => by cases h
  | b :: l, h => by
    by_cases e : b = c
    · subst e; simp [pre, post]
    · have hb : (b != c) = true := by simpa using e
      have ih := pre_eq (c := c) (l := l) (by rcases List.mem_cons.1 h with h | h; exact absurd h.symm e; exact h)
      unfold pre post at ih ⊢
      rw [List.takeWhile_cons, List.dropWhile_cons, hb]
      simpa using ih
theorem pre_not (c : UInt8) : ∀ l : List UInt8, c ∉ pre c l
  | [] => by simp [pre]
  | b :: l => by
    have ih := pre_not c l
    unfold pre at ih ⊢
    rw [List.takeWhile_cons]
    split
    · rename_i h
      simp only [List.mem_cons, not_or]
      exact ⟨fun e => by subst e; simp at h, ih⟩
    · simp
theorem pre_len (c : UInt8) (l : List UInt8) : (pre c l).length ≤ l.length := (List.takeWhile_sublist _).length_le
theorem pre_lt {c : UInt8} {l : List UInt8} (h : c ∈ l) : (pre c l).length < l.length := by
  have := congrArg List.length (pre_eq h)
  simp at this
  omega
theorem post_len (c : UInt8) (l : List UInt8) : (post c l).length ≤ l.length := by
  have := (List.dropWhile_sublist (fun x => x != c) (l := l)).length_le
  unfold post
  simp
  omega
theorem post_lt {c : UInt8} {l : List UInt8} (h : c ∈ l) : (post c l).length < l.length := by
  have := congrArg List.length (pre_eq h)
  simp at this
  omega
theorem index_none {c : UInt8} : ∀ {l : List UInt8}, c ∉ l → Lib.indexByte l c = -1
  | [], _ => rfl
  | b :: l, h => by
    have hb : (b == c) = false := by simpa using fun e => h (by simp [e])
    unfold Lib.indexByte
    rw [hb, index_none (fun h' => h (List.mem_cons_of_mem _ h'))]
    rfl
theorem index_some {c : UInt8} : ∀ {l : List UInt8}, c ∈ l → Lib.indexByte l c = ((pre c l).length : Nat)
  | [], h => by cases h
  | b :: l, h => by
    unfold Lib.indexByte
    by_cases e : b = c
    · subst e; simp [pre]
    · have hb : (b == c) = false := by simpa using e
      have hb' : (b != c) = true := by simpa using e
      have ih := index_some (c := c) (l := l) (by rcases List.mem_cons.1 h with h | h; exact absurd h.symm e; exact h)
      unfold pre at ih ⊢
      rw [hb, ih, List.takeWhile_cons, hb']
      simp
theorem take_pre (c : UInt8) : ∀ l : List UInt8, l.take (pre c l).length = pre c l
  | [] => rfl
  | b :: l => by
    unfold pre
    rw [List.takeWhile_cons]
    split
    · have := take_pre c l
      unfold pre at this
      simp [this]
    · rfl
theorem drop_post {c : UInt8} {l : List UInt8} (h : c ∈ l) : l.drop ((pre c l).length + 1) = post c l := by
  have e := pre_eq h
  generalize pre c l = a at *
  generalize post c l = r at *
  subst e
  rw [show a ++ c :: r = (a ++ [c]) ++ r by simp, show a.length + 1 = (a ++ [c]).length by simp, List.drop_left]
theorem extract_pre (c : UInt8) (s : ByteArray) : s.extract 0 (pre c s.data.toList).length = bs (pre c s.data.toList) := by
  apply ByteArray.ext
  rw [ByteArray.data_extract]
  apply Array.toList_inj.1
  rw [Array.toList_extract, bs_list]
  simp [List.extract, take_pre]
theorem extract_post {c : UInt8} (s : ByteArray) (h : c ∈ s.data.toList) : s.extract ((pre c s.data.toList).length + 1) s.size = bs (post c s.data.toList) := by
  apply ByteArray.ext
  rw [ByteArray.data_extract]
  apply Array.toList_inj.1
  rw [Array.toList_extract, bs_list]
  have := congrArg List.length (drop_post h)
  simp at this
  simp [List.extract, drop_post h]
  exact List.take_of_length_le (by omega)
end Go.Proofs.YtoohfmkhjhcopaaGreatDoor.AM
