/-
  The library's tables that a line wants; names, registers and numbers of package asm, call by call. Nothing here is a statement of the seed.
-/
import Derived.Test.YtoohfmkhjhcopaaGreatDoorShelf
import Derived.Test.YtoohfmkhjhcopaaGreatDoorAsmMath2
import Derived.Test.YtoohfmkhjhcopaaGreatDoorIsaFn
import Derived.Lib.LaidTab
import Derived.Sort.Grow
set_option linter.unusedSimpArgs false
set_option linter.unusedVariables false
namespace Go.Proofs.YtoohfmkhjhcopaaGreatDoor.AF
open Go.RowKit WM IM WF IF AM

def mnCells : Array Value := (mnL.map fun l => Value.string (bs l)).toArray
/-- what the tables hold when a call begins -/
structure Tab (w : World) : Prop where
  pow : Lib.TabIs Tryz.prog w "internal/strconv.uint64pow10" .u64 Lib.pow10Tab
  mns : w.var? Tryz.prog "budwood/asm.mnemonics" = some mnCells
  syn : ∃ tp p, w.var? Tryz.prog "strconv.ErrSyntax" = some #[.iface tp p]
  rng : ∃ tp p, w.var? Tryz.prog "strconv.ErrRange" = some #[.iface tp p]
theorem var_below {P : Program} {n : String} {cs : Array Value} {w u : World} (h : w.var? P n = some cs) (hb : Below w.heap.size w u) : u.var? P n = some cs := by
  unfold World.var? at h ⊢
  cases hg : P.globalNamed n with
  | none => simp [hg] at h
  | some g =>
    simp only [hg, Option.bind_some] at h ⊢
    have hlt : g < w.heap.size := by
      rcases Nat.lt_or_ge g w.heap.size with h' | h'
      · exact h'
      · simp [Array.getElem?_eq_none h'] at h
    rw [hb.block g hlt]
    exact h
theorem Tab.below {w u : World} (h : Tab w) (hb : Below w.heap.size w u) : Tab u :=
  ⟨var_below h.pow hb, var_below h.mns hb, h.syn.elim fun tp h1 => h1.elim fun p h2 => ⟨tp, p, var_below h2 hb⟩, h.rng.elim fun tp h1 => h1.elim fun p h2 => ⟨tp, p, var_below h2 hb⟩⟩
/-- a call tells a value wherever the tables are laid, and nothing that was there turns -/
def SaysT (f : FuncId) (args : Array Value) (v : Value) : Prop := ∀ w : World, Tab w → Calls Tryz.prog f args w fun e w' => e = .returned v ∧ Below w.heap.size w w'
theorem saysT {f : FuncId} {args : Array Value} {v : Value} (h : Says Tryz.prog f args v) : SaysT f args v := fun w _ => h w
theorem inT {f : FuncId} {args : Array Value} {v : Value} (h : SaysT f args v) (W0 : World) (T : Hid (Tab W0)) (u : World) (hb : Below W0.heap.size W0 u) :
    Calls Tryz.prog f args u fun e w' => e = .returned v ∧ Below W0.heap.size W0 w' := (h u (T.out.below hb)).mono fun _ _ ⟨he, h2⟩ => ⟨he, hb.trans (h2.mono hb.size)⟩
theorem below_grow {w : World} (k : Nat) (os : Array Obj) : Below w.heap.size w (Sort.grow (w.drewN k) os) := by
  refine ⟨rfl, rfl, rfl, ?_, ?_⟩
  · show w.heap.size ≤ (w.heap ++ os).size
    simp
  · intro b hb
    show (w.heap ++ os)[b]? = w.heap[b]?
    rw [Array.getElem?_append_left hb]

theorem mnem_cell {w : World} (h : Tab w) (i : Nat) : w.cell? ⟨0, i, none⟩ = (mnL[i]?).map fun l => Value.string (bs l) := by
  rw [World.var?_cell (by kernel_rfl) h.mns i]
  unfold mnCells
  rw [List.getElem?_toArray, List.getElem?_map]
theorem mnem_at {w : World} (h : Tab w) {o : Int} (ho : 0 ≤ o ∧ o ≤ 21) : w.cell? ⟨0, o.toNat, none⟩ = some (.string (bs (mn o))) := by
  rw [mnem_cell h, List.getElem?_eq_getElem (show o.toNat < mnL.length by simp [mnL]; omega)]
  unfold mn
  rw [List.getD_eq_getElem?_getD, List.getElem?_eq_getElem (show o.toNat < mnL.length by simp [mnL]; omega)]
  rfl
theorem mnemonic_any (o : Int) (ho : 0 ≤ o ∧ o ≤ 255) : SaysT 10 #[.int .u8 o] (.string (bs (mn o))) := by
  intro w T
  obtain ⟨h0, h1⟩ := ho
  by_cases h : 21 < o
  · have E := Lib.hid (mn_far h)
    go_enter Tryz.func10, Tryz.ntmps10
    go_wp2_with fail
    go_ret
    exact ⟨by rw [E.out]; rfl, Below.refl _ _⟩
  · have h2 : o ≤ 21 := by omega
    have h3 : o < 22 := by omega
    have C := mnem_at T ⟨h0, h2⟩
    generalize bs (mn o) = S at *
    go_enter Tryz.func10, Tryz.ntmps10
    go_wp2_with fail
    go_ret
    exact ⟨rfl, Below.refl _ _⟩
theorem printRegister_any (r : Int) (hr : 0 ≤ r ∧ r ≤ 7) : Says Tryz.prog 21 #[.int .u8 r] (.string (bs (rg r))) := says_same fun w => by
  obtain ⟨n, rfl⟩ := Int.eq_ofNat_of_zero_le hr.1
  have hn : n ≤ 7 := by omega
  have C := fun w => Tryz.strconv_Itoa_small n (by omega) w
  have E : Hid ((⟨#[114]⟩ : ByteArray) ++ bs (Lib.decDigits n) = bs (rg (n : Int))) := by
    show _ = _
    rw [show (⟨#[114]⟩ : ByteArray) = bs [114] from rfl, app_bs]
    unfold rg Lib.itoa
    rw [if_neg (by omega)]
    rfl
  have hs : (bs (Lib.decDigits n)).size ≤ 3 := by
    rw [bs_size, Lib.decDigits, dif_pos (by omega)]
    simp
  change ∀ w, Calls Tryz.prog 39 #[.int .i64 (n : Int)] w fun e w' => e = .returned (.string (bs (Lib.decDigits n))) ∧ w' = w at C
  generalize bs (Lib.decDigits n) = D at *
  generalize bs (rg (n : Int)) = R at *
  have hi : 0 ≤ (n : Int) ∧ (n : Int) ≤ 7 := by omega
  clear hr hn
  generalize (n : Int) = z at *
  obtain ⟨z0, z1⟩ := hi
  go_enter Tryz.func21, Tryz.ntmps21
  go_wp2_with (go_at_call 39; refine (C _).mono ?_; rintro e w' ⟨rfl, rfl⟩)
  go_ret
  exact ⟨by rw [E.out]; rfl, rfl⟩
theorem formatInt_any (m : Int) (h : -9223372036854775808 ≤ m ∧ m ≤ 9223372036854775807) : SaysT 22 #[.int .i64 m, .int .i64 10] (.string (bs (Lib.itoa m))) := fun w T =>
  (Tryz.strconv_FormatInt_10 m h.1 h.2 w T.pow).mono fun e w' ⟨he, k, os, hw⟩ => by
    subst hw
    exact ⟨he, below_grow k os⟩
end Go.Proofs.YtoohfmkhjhcopaaGreatDoor.AF
