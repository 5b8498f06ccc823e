/-
  Put of both in one form; what every right program lays. Nothing here is a statement of the seed.
-/
import Derived.Test.YtdlinlkdielmkaaObjPutP
import Derived.Test.YtdlinlkdielmkaaObjGetX
import Derived.Test.YtdlinlkdielmkaaObjCopyR
import Derived.Test.YtdlinlkdielmkaaObjSizeR
import Derived.Test.YtdlinlkdielmkaaObjSameP
set_option linter.unusedSimpArgs false
set_option linter.unusedVariables false
namespace Go.Proofs.Ytdlinlkdielmkaa.OR
open Go.RowKit WM NR OM
set_option maxHeartbeats 4000000
set_option maxRecDepth 10000
/-- the bytes that Put tells -/
def plM (m : Md) : List UInt8 := if chkM m = 0 then putL m else []
/-- what Put tells -/
def IsPutU (m : Md) (w : World) (e : Ending) (w' : World) : Prop :=
  ∃ a n c, e = .returned (.tuple #[.slice a n c, .int .i64 (chkM m : Nat)]) ∧ Reads (fun g => w.heap.size ≤ g) w' (.slice a n c) (u8s (plM m)) ∧ Below w.heap.size w w'
section
variable {w : World} {ea : Option Addr} {en ec : Nat} {ia : Option Addr} {im ic : Nat} {ca : Option Addr} {cn cc : Nat} {da : Option Addr} {dn dc : Nat} {ra : Option Addr} {rn rc : Nat} {m : Md}
theorem objPut_u (h : RdM (· < w.heap.size) w ea en ec ia im ic ca cn cc da dn dc ra rn rc m) (hf : FineM m) :
    Calls Try.prog 12 #[mV (bs m.name) ea en ec ia im ic ca cn cc da dn dc ra rn rc] w (IsPutU m w) := by
  refine (objPut_any h hf).mono fun e w' hh => ?_
  unfold IsPutP at hh
  unfold IsPutU plM
  by_cases hc : chkM m = 0
  · rw [if_pos hc] at hh ⊢
    obtain ⟨v, rfl, hr, hb⟩ := hh
    obtain ⟨a, n, c, rfl⟩ := hr.form
    exact ⟨a, n, c, by rw [hc]; rfl, hr, hb⟩
  · rw [if_neg hc] at hh ⊢
    obtain ⟨rfl, hb⟩ := hh
    exact ⟨none, 0, 0, rfl, Reads.nil _ _, hb⟩
theorem refPut_u (h : RdM (· < w.heap.size) w ea en ec ia im ic ca cn cc da dn dc ra rn rc m) (hf : FineM m) :
    Calls Try.prog 13 #[mV (bs m.name) ea en ec ia im ic ca cn cc da dn dc ra rn rc] w (IsPutU m w) := by
  have hp : Calls Try.prog 13 #[mV (bs m.name) ea en ec ia im ic ca cn cc da dn dc ra rn rc] w (IsPut w.heap.size m w) := by
    by_cases hc : chkM m = 0
    · exact put_yes h hc hf
    · exact put_no h hc
  refine hp.mono fun e w' hh => ?_
  unfold IsPut at hh
  unfold IsPutU plM
  by_cases hc : chkM m = 0
  · rw [if_pos hc] at hh ⊢
    obtain ⟨v, rfl, hr, hb⟩ := hh
    obtain ⟨a, c, rfl⟩ := owns_form hr
    exact ⟨a, _, c, by rw [hc]; rfl, (Reads.of_owns hr).mono fun g hg => hg.1, hb⟩
  · rw [if_neg hc] at hh ⊢
    obtain ⟨rfl, hb⟩ := hh
    exact ⟨none, 0, 0, rfl, Reads.nil _ _, hb⟩
theorem fine_zero : FineM zeroM := ⟨fun w hw => (by cases hw), fun w hw => (by cases hw), fun w hw => (by cases hw)⟩
theorem put_zero : putL zeroM = [66, 85, 68, 49, 0, 0, 0, 0, 0, 0] := by
  have e : varL 0 = [0] := varL_low 0 (by omega)
  simp [putL, bodyL, bud1, zeroM, textL, textsL, wordsL, relsL, textsB, relsB, manyL, e]
theorem conv_bytes2 (W : World) : (convert 30 30 (.slice (some ⟨W.heap.size, 0, none⟩) 4 4)).run Try.prog (W.alloc (.cells #[.int .u8 66, .int .u8 85, .int .u8 68, .int .u8 50] 5)) = .ok (.slice (some ⟨W.heap.size, 0, none⟩) 4 4) (W.alloc (.cells #[.int .u8 66, .int .u8 85, .int .u8 68, .int .u8 50] 5 (4, 5))) := Lib.run_convert_bytes_const W 30 5 #[.int .u8 66, .int .u8 85, .int .u8 68, .int .u8 50] 4 4 Try.underlying30 Try.underlying5
theorem reads_two (W : World) : Reads (· < (W.alloc (.cells #[.int .u8 66, .int .u8 85, .int .u8 68, .int .u8 50] 5 (4, 5))).heap.size) (W.alloc (.cells #[.int .u8 66, .int .u8 85, .int .u8 68, .int .u8 50] 5 (4, 5))) (.slice (some ⟨W.heap.size, 0, none⟩) 4 4) (u8s [66, 85, 68, 50]) := by
  refine ⟨some ⟨W.heap.size, 0, none⟩, 4, rfl, by decide, by simp [maxLen], (fun h => by cases h), Or.inr ⟨W.heap.size, 0, rfl, by simp, fun j hj => ?_⟩⟩
  have e : (W.alloc (.cells #[.int .u8 66, .int .u8 85, .int .u8 68, .int .u8 50] 5 (4, 5))).heap[W.heap.size]? = some (.cells #[.int .u8 66, .int .u8 85, .int .u8 68, .int .u8 50] 5 (4, 5)) := heap_alloc_new W _
  rw [Nat.zero_add]
  unfold World.cell?
  simp only [e]
  have hj4 : j < 4 := hj
  rcases (show j = 0 ∨ j = 1 ∨ j = 2 ∨ j = 3 by omega) with rfl | rfl | rfl | rfl <;> rfl
theorem getF_two : getF [66, 85, 68, 50] = (4, zeroM) := getF_mark (by decide) (by decide)
theorem awake_any (w : World) : Calls Try.prog 10 #[] w fun e w' => e = .returned (.bool true) ∧ Below w.heap.size w w' := by
  have C1 : Hid (Calls Try.prog 12 #[.agg #[.string ⟨#[]⟩, .slice none 0 0, .slice none 0 0, .slice none 0 0, .slice none 0 0, .slice none 0 0]] w (fun e w' => ∃ a n c, e = .returned (.tuple #[.slice a n c, .int .i64 0]) ∧ Reads (fun g => w.heap.size ≤ g) w' (.slice a n c) (u8s [66, 85, 68, 49, 0, 0, 0, 0, 0, 0]) ∧ Below w.heap.size w w')) := by
    have := objPut_u (rdM_zero (· < w.heap.size) w) fine_zero
    unfold IsPutU plM at this
    rw [show chkM zeroM = 0 from rfl, if_pos rfl, put_zero] at this
    exact this
  have C2 := Lib.hid (fun (W : World) => objGet_any (reads_two W))
  unfold IsGet at C2
  simp only [getF_two] at C2
  have hcv := conv_bytes2
  have exx : (bs [66, 85, 68, 49, 0, 0, 0, 0, 0, 0]) = ⟨#[66, 85, 68, 49, 0, 0, 0, 0, 0, 0]⟩ := rfl
  go_enter Try.func10, Try.ntmps10
  go_upto_region 2 with (go_at_call 12; (with_reducible refine C1.out.mono ?_); rintro e w1 ⟨a1, n1, c1, rfl, hr1, hb1⟩; have HR1 := Lib.hid hr1; have HB1 := Lib.hid hb1; clear hr1 hb1)
  have hcw := hcv w1
  have HB2 := Lib.hid (HB1.out.alloc HB1.out.size (.cells #[.int .u8 66, .int .u8 85, .int .u8 68, .int .u8 50] 5 (4, 5)))
  have HR2 := Lib.hid (HR1.out.alloc (.cells #[.int .u8 66, .int .u8 85, .int .u8 68, .int .u8 50] 5 (4, 5)))
  clear hcv C1 HR1
  go_upto_region 3 with (go_at_call 17; (with_reducible refine (C2.out _).mono ?_); rintro e w3 ⟨xa, xn, xc, ya, yn, yc, za, zn, zc, ta, tn, tc, ua, un, uc, rfl, hO, hb3⟩; have HB3 := Lib.hid (HB2.out.trans (hb3.mono HB2.out.size)); have HR3 := Lib.hid (HR2.out.keep fun g _ hg => hb3.block g hg); clear hO hb3)
  have HB4 := Lib.hid (HB3.out.alloc HB3.out.size (.cells (mCs (bs zeroM.name) xa xn xc ya yn yc za zn zc ta tn tc ua un uc) 26))
  have hp := text_run (HR3.out.alloc (.cells (mCs (bs zeroM.name) xa xn xc ya yn yc za zn zc ta tn tc ua un uc) 26))
  rw [exx] at hp
  clear exx HB2 HB3 HR2 HR3 C2 hcw
  generalize w3.alloc (.cells (mCs (bs zeroM.name) xa xn xc ya yn yc za zn zc ta tn tc ua un uc) 26) = W4 at *
  go_wp2_with fail
  go_ret
  exact ⟨rfl, HB4.out⟩
end
end Go.Proofs.Ytdlinlkdielmkaa.OR
