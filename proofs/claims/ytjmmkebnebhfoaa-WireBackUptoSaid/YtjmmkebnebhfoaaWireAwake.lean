/-
  What every right program lays and reads.
-/
import Derived.Test.YtjmmkebnebhfoaaWireSt
set_option linter.unusedSimpArgs false
set_option linter.unusedVariables false
namespace Go.Proofs.Ytjmmkebnebhfoaa.NR
open Go.RowKit WM

theorem bs_toList (l : List UInt8) : (bs l).toList = l := by rw [Lib.toList_data]; rfl
theorem varL_300 : varL 300 = [172, 2] := by
  rw [varL_high 300 (by omega), varL_low (300 / 128) (by omega)]
  rfl
theorem textL_ab : textL [97, 98] = [2, 97, 98] := by
  unfold textL
  rw [show ([97, 98] : List UInt8).length % 4294967296 = 2 from rfl, varL_low 2 (by omega)]
  rfl
theorem owns_text {w w' : World} {B : Nat} {v : Value} {l : List UInt8} {n : Nat} (h : w.ownsRow B 5 1 v n (u8s l)) (hb : Below w.heap.size w w') : (convert 24 9 v).run Try.prog w' = .ok (.string (bs l)) w' :=
  (Reads.of_owns (owns_below h hb)).text Try.underlying24 Try.underlying5 Try.underlying9
theorem owns_form {w : World} {B : Nat} {e : TypeId} {v : Value} {n : Nat} {xs : List Value} (h : w.ownsRow B e 1 v n xs) : ∃ a m c, v = .slice a m c := (Reads.of_owns h).form
theorem awake_any (w : World) : Calls Try.prog 17 #[] w fun e w' => e = .returned (.bool true) ∧ Below w.heap.size w w' := by
  have hrd : Reads (· < (w.alloc (.cells #[.int .u8 128, .int .u8 0] 5)).heap.size) (w.alloc (.cells #[.int .u8 128, .int .u8 0] 5)) (.slice (some ⟨w.heap.size, 0, none⟩) 2 2) (u8s [128, 0]) := by
    have h := owns_block (w := w.alloc (.cells #[.int .u8 128, .int .u8 0] 5)) (g := w.heap.size) (B := 0) (t := 5) (cs := #[.int .u8 128, .int .u8 0]) (heap_alloc_new w _) (Nat.zero_le _) 2 rfl (by simp [maxLen])
    exact (Reads.of_owns h).there.mono fun g hg => hg.2
  have CN := Lib.hid (new_any [128, 0] _ _ hrd (by simp))
  have hb0 := below_new w (.cells #[.int .u8 128, .int .u8 0] 5)
  have HB0 := Lib.hid hb0
  have CV := Lib.hid (fun u => var_any 300 u (by omega))
  have CT := Lib.hid (fun u => text_any ⟨#[97, 98]⟩ u (by simp [ByteArray.size]))
  have V300 := Lib.hid varL_300
  have TAB := Lib.hid textL_ab
  clear hrd hb0
  go_enter Try.func17, Try.ntmps17
  go_wp2_with fail
  refine CN.out.mono ?_
  rintro e w1 ⟨p, rfl, hp, hr1, hb1⟩
  have HR1 := Lib.hid hr1
  have HB1 := Lib.hid (below_of HB0.out hb1)
  have HPP := Lib.hid hp
  clear hr1 hb1 hp
  go_wp2_with fail
  refine (CV.out _).mono ?_
  rintro e w2 ⟨v2, rfl, hown2, hb2⟩
  rw [V300.out] at hown2
  have kc2 := owns_text hown2 (Below.refl _ _)
  obtain ⟨a2, n2, c2, rfl⟩ := owns_form hown2
  have HR2 := Lib.hid (HR1.out.keep hb2)
  have HB2 := Lib.hid (below_of HB1.out hb2)
  clear hown2 hb2
  have t2 : (bs [172, 2]).toList = [172, 2] := bs_toList _
  go_wp2_with fail
  refine (CT.out _).mono ?_
  rintro e w3 ⟨v3, rfl, hown3, hb3⟩
  have hown3' : w3.ownsRow w2.heap.size 5 1 v3 (textL [97, 98]).length (u8s (textL [97, 98])) := hown3
  rw [TAB.out] at hown3'
  have kc3 := owns_text hown3' (Below.refl _ _)
  obtain ⟨a3, n3, c3, rfl⟩ := owns_form hown3'
  have HR3 := Lib.hid (HR2.out.keep hb3)
  have HB3 := Lib.hid (below_of HB2.out hb3)
  have t3 : (bs [2, 97, 98]).toList = [2, 97, 98] := bs_toList _
  have CRV := Lib.hid (rVar_st w3 p [128, 0] [] 0 4 0 9 HR3.out (by omega) (by simp) (by decide))
  clear hown3 hown3' hb3 kc2
  go_wp2_with fail
  refine CRV.out.mono ?_
  rintro e w4 ⟨rfl, hg4, hr4⟩
  have CE := Lib.hid (err_any w4 p [] 4 hr4)
  have HP := Lib.hid HR1.out.lt
  have HB4 := Lib.hid hg4
  clear hg4 hr4 kc3
  go_wp2_with (go_at_call 20; refine CE.out.mono ?_; rintro e w' ⟨rfl, rfl⟩)
  go_ret
  refine ⟨rfl, below_then HB3.out HB4.out ?_ HB3.out.size⟩
  have := HPP.out
  simp at this
  omega
theorem awakeS : ∀ w : World, Calls Try.prog 17 #[] w fun e w' => e = .returned (.bool true) ∧ Below w.heap.size w w' := awake_any
end Go.Proofs.Ytjmmkebnebhfoaa.NR
