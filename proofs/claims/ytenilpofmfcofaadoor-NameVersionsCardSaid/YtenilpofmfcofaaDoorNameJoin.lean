/-
  Package name and the reference for layer 2: Join.
-/
import Derived.Test.YtenilpofmfcofaaDoorNameRef3
import Derived.Lib.LaidTab
import Derived.Lib.ItoaNum
import Derived.Sort.Grow
import Derived.Laws.Concat
set_option linter.unusedSimpArgs false
set_option linter.unusedVariables false
namespace Go.Proofs.YtenilpofmfcofaaDoor.NF
open Go.RowKit NM

/-- the table that the library's numerals read -/
def Tab (w : World) : Prop := Lib.TabIs Tryd.prog w "internal/strconv.uint64pow10" .u64 Lib.pow10Tab
theorem Tab.below {w u : World} (h : Tab w) (hb : Below w.heap.size w u) : Tab u := by
  unfold Tab Lib.TabIs World.var? at h ⊢
  cases hg : Tryd.prog.globalNamed "internal/strconv.uint64pow10" with
  | none => simp [hg] at h
  | some g =>
    simp only [hg, Option.bind_some] at h ⊢
    have hlt : g < w.heap.size := by
      rcases Nat.lt_or_ge g w.heap.size with h' | h'
      · exact h'
      · simp [Array.getElem?_eq_none h'] at h
    rw [hb.block g hlt]
    exact h
/-- a call tells a value wherever the table is laid, and nothing that was there turns -/
def SaysT (f : FuncId) (args : Array Value) (v : Value) : Prop := ∀ w : World, Tab w → Calls Tryd.prog f args w fun e w' => e = .returned v ∧ Below w.heap.size w w'
theorem SaysT.at {f : FuncId} {args : Array Value} {v : Value} (h : SaysT f args v) (w : World) (ht : Tab w) : Calls Tryd.prog f args w fun e w' => e = .returned v ∧ Below w.heap.size w w' := h w ht
theorem saysT {f : FuncId} {args : Array Value} {v : Value} (h : Says Tryd.prog f args v) : SaysT f args v := fun w _ => h w
theorem inT {f : FuncId} {args : Array Value} {v : Value} (h : SaysT f args v) (W0 : World) (T : Hid (Tab W0)) (u : World) (hb : Below W0.heap.size W0 u) :
    Calls Tryd.prog f args u fun e w' => e = .returned v ∧ Below W0.heap.size W0 w' := (h u (T.out.below hb)).mono fun _ _ ⟨he, h2⟩ => ⟨he, hb.trans (h2.mono hb.size)⟩
theorem below_grow {w : World} (k : Nat) (os : Array Obj) : Below w.heap.size w (Sort.grow (w.drewN k) os) := by
  refine ⟨rfl, rfl, rfl, ?_, ?_⟩
  · show w.heap.size ≤ (w.heap ++ os).size
    simp
  · intro b hb
    show (w.heap ++ os)[b]? = w.heap[b]?
    rw [Array.getElem?_append_left hb]
theorem itoa_digs (n : Nat) (h : n ≤ 999) : Lib.itoa (n : Int) = digs n := by
  unfold Lib.itoa digs
  rw [if_neg (by omega), Int.toNat_natCast]
  by_cases h1 : n < 10
  · rw [if_pos h1, Lib.decDigits, dif_pos h1]
  · rw [if_neg h1, Lib.decDigits, dif_neg h1]
    by_cases h2 : n < 100
    · rw [if_pos h2, Lib.decDigits, dif_pos (by omega)]
      rfl
    · rw [if_neg h2, Lib.decDigits, dif_neg (by omega), Lib.decDigits, dif_pos (by omega)]
      simp [Nat.div_div_eq_div_mul]
theorem itoaS (n : Nat) (h : n ≤ 999) : SaysT 13 #[.int .i64 (n : Int)] (.string (bs (digs n))) := fun w ht =>
  (Tryd.strconv_Itoa (n : Int) (by omega) (by omega) w ht).mono fun e w' ⟨he, k, os, hw⟩ => by
    subst hw
    refine ⟨by rw [he, itoa_digs n h]; rfl, below_grow k os⟩
theorem containsS (s : ByteArray) (b : Bool) (hb : hasAt s.data.toList = b) : Says Tryd.prog 12 #[.string s, .string ⟨#[64]⟩] (.bool b) := says_same fun w =>
  (Tryd.strings_Contains_one s 64 w).mono fun e w' ⟨he, hw⟩ => by
    subst hb
    refine ⟨by rw [he]; congr 2; cases h : hasAt s.data.toList with
      | true => rw [index_some _ h]; simp
      | false => rw [index_none _ h]; rfl, hw.symm⟩
theorem digs_len (n : Nat) : (digs n).length ≤ 3 := by unfold digs; split <;> (try split) <;> simp
theorem app_bs (a b : List UInt8) : bs a ++ bs b = bs (a ++ b) := ByteArray.mk_append_mk a b
theorem text_len (l : List UInt8) (n : Nat) : (text l n).length ≤ l.length + 4 := by
  unfold text
  have := digs_len n
  split <;> simp <;> omega
theorem join_arg (s : ByteArray) (n : Int) (h : n < 0 ∨ 999 < n) : Says Tryd.prog 6 #[.string s, .int .i64 n] (.tuple #[.string ⟨#[]⟩, .int .i64 2]) := by
  intro w
  by_cases h0 : n < 0
  · go_enter Tryd.func6, Tryd.ntmps6
    go_wp2_with fail
    go_ret2
    exact ⟨rfl, Below.refl _ _⟩
  · have h1 : 999 < n := by omega
    go_enter Tryd.func6, Tryd.ntmps6
    go_wp2_with fail
    go_ret2
    exact ⟨rfl, Below.refl _ _⟩
theorem join_at (s : ByteArray) (n : Int) (h0 : 0 ≤ n) (h1 : n ≤ 999) (ha : hasAt s.data.toList = true) : Says Tryd.prog 6 #[.string s, .int .i64 n] (.tuple #[.string ⟨#[]⟩, .int .i64 6]) := by
  intro w
  have C := containsS s true ha
  clear ha
  go_enter Tryd.func6, Tryd.ntmps6
  go_wp2_with (go_at_call 12; refine (C.at _).mono ?_; rintro e w1 ⟨rfl, hb⟩)
  go_ret2
  exact ⟨rfl, hb⟩
theorem join_text (s : ByteArray) (n : Nat) (hs : s.size ≤ 140737488355328) (h1 : n ≤ 999) (ha : hasAt s.data.toList = false) (k : Int) (hk : chk (text s.data.toList n) = k) :
    SaysT 6 #[.string s, .int .i64 (n : Int)] (.tuple #[.string (if k = 0 then bs (text s.data.toList n) else ⟨#[]⟩), .int .i64 k]) := by
  intro w T
  have HT := Lib.hid T
  clear T
  have hb := Below.refl w.heap.size w
  have C0 := containsS s false ha
  have C1 := itoaS n h1
  have tl := text_len s.data.toList n
  rw [size_list] at tl
  have C2 := checkS (bs (text s.data.toList n)) (by rw [bs_size]; omega) k (by rw [bs_list]; exact hk)
  have C3 : k = 0 → Says Tryd.prog 14 #[.string (bs (text s.data.toList n))] (.string (bs (text s.data.toList n))) := fun _ w => clone_any _ w (by rw [bs_size]; omega)
  clear ha hk tl
  have dl := digs_len n
  have h1' : ¬ 999 < (n : Int) := by omega
  have h0' : ¬ (n : Int) < 0 := by omega
  by_cases hz : n = 0
  · subst hz
    have E : bs (text s.data.toList 0) = s := rfl
    rw [E] at C2 C3 ⊢
    clear E C1 dl
    by_cases h : k = 0
    · have C4 := C3 h
      clear C3
      subst h
      rw [if_pos rfl]
      go_enter Tryd.func6, Tryd.ntmps6
      go_wp2_with (first | (go_at_call 12; refine (inw C0 w _ hb).mono ?_; rintro e w1 ⟨rfl, hb⟩) | (go_at_call 10; refine (inw C2 w _ hb).mono ?_; rintro e w1 ⟨rfl, hb⟩) | (go_at_call 14; refine (inw C4 w _ hb).mono ?_; rintro e w1 ⟨rfl, hb⟩))
      go_ret2
      exact ⟨rfl, hb⟩
    · rw [if_neg h]
      have h' : (k != 0) = true := by simpa using h
      clear C3 h
      go_enter Tryd.func6, Tryd.ntmps6
      go_wp2_with (first | (go_at_call 12; refine (inw C0 w _ hb).mono ?_; rintro e w1 ⟨rfl, hb⟩) | (go_at_call 10; refine (inw C2 w _ hb).mono ?_; rintro e w1 ⟨rfl, hb⟩))
      go_ret2
      exact ⟨rfl, hb⟩
  · have hz' : 0 < (n : Int) := by omega
    have E : s ++ ((⟨#[64]⟩ : ByteArray) ++ bs (digs n)) = bs (text s.data.toList n) := by
      rw [show (⟨#[64]⟩ : ByteArray) = bs [64] from rfl, app_bs]
      conv => lhs; rw [← bs_of s]
      rw [app_bs]
      unfold text
      rw [if_neg hz]
      rfl
    have dz : (bs (digs n)).size ≤ 3 := by rw [bs_size]; exact dl
    clear hz dl
    generalize bs (digs n) = D at *
    generalize bs (text s.data.toList n) = T at *
    by_cases h : k = 0
    · have C4 := C3 h
      clear C3
      subst h
      rw [if_pos rfl]
      go_enter Tryd.func6, Tryd.ntmps6
      go_wp2_with (first | (go_at_call 12; refine (inw C0 w _ hb).mono ?_; rintro e w1 ⟨rfl, hb⟩) | (go_at_call 13; refine (inT C1 w HT _ hb).mono ?_; rintro e w1 ⟨rfl, hb⟩) | (go_at_call 10; refine (inw C2 w _ hb).mono ?_; rintro e w1 ⟨rfl, hb⟩) | (go_at_call 14; refine (inw C4 w _ hb).mono ?_; rintro e w1 ⟨rfl, hb⟩))
      go_ret2
      exact ⟨rfl, hb⟩
    · rw [if_neg h]
      have h' : (k != 0) = true := by simpa using h
      clear C3 h
      go_enter Tryd.func6, Tryd.ntmps6
      go_wp2_with (first | (go_at_call 12; refine (inw C0 w _ hb).mono ?_; rintro e w1 ⟨rfl, hb⟩) | (go_at_call 13; refine (inT C1 w HT _ hb).mono ?_; rintro e w1 ⟨rfl, hb⟩) | (go_at_call 10; refine (inw C2 w _ hb).mono ?_; rintro e w1 ⟨rfl, hb⟩))
      go_ret2
      exact ⟨rfl, hb⟩
end Go.Proofs.YtenilpofmfcofaaDoor.NF
