/-
  The walk of PageCans. Nothing here is a statement of the seed.
-/
import Derived.Test.YthpdpocglfafaaaPageAwake
set_option linter.unusedSimpArgs false
set_option linter.unusedVariables false
namespace Go.Proofs.Ythpdpocglfafaaa.WK
open Go.RowKit PM PR PF

set_option maxHeartbeats 8000000 in
theorem PageCans_walk (st : Int) (ex wr : Bool) (ow ep epoch owner : Int) (w : World) : Calls Try.prog 4 #[pgV st ex wr ow ep, .int .u64 epoch, .int .u16 owner] w fun e w' => e = .returned (.bool true) ∧ Below w.heap.size w w' := by
  have C1 := Lib.hid (reads_any ⟨st, ex, wr, ow, ep⟩ epoch)
  have C2 := Lib.hid (refReads_any ⟨st, ex, wr, ow, ep⟩ epoch)
  have C3 := Lib.hid (runs_any ⟨st, ex, wr, ow, ep⟩ epoch)
  have C4 := Lib.hid (refRuns_any ⟨st, ex, wr, ow, ep⟩ epoch)
  have C5 := Lib.hid (writes_any ⟨st, ex, wr, ow, ep⟩ epoch owner)
  have C6 := Lib.hid (refWrites_any ⟨st, ex, wr, ow, ep⟩ epoch owner)
  have C7 : Hid (Says Try.prog 9 #[] (.bool true)) := Lib.hid awake_any
  generalize seenB ⟨st, ex, wr, ow, ep⟩ epoch = q1 at *
  generalize runsB ⟨st, ex, wr, ow, ep⟩ epoch = q2 at *
  generalize writesB ⟨st, ex, wr, ow, ep⟩ epoch owner = q3 at *
  change Hid (Says _ _ #[pgV st ex wr ow ep, _] _) at C1 C2 C3 C4
  change Hid (Says _ _ #[pgV st ex wr ow ep, _, _] _) at C5 C6
  go_enter Try.func4, Try.ntmps4
  go_wp2_with fail
  have hB := Whole.new w 40 #[.int .u8 st, .bool ex, .bool wr, .int .u16 ow, .int .u64 ep]
  have hwW := below_new w (.cells #[.int .u8 st, .bool ex, .bool wr, .int .u16 ow, .int .u64 ep] 40)
  generalize w.alloc (.cells #[.int .u8 st, .bool ex, .bool wr, .int .u16 ow, .int .u64 ep] 40) = W at *
  have KK : Hid (∀ u, Below W.heap.size W u → (u.cell? ⟨w.heap.size, 0, none⟩ = some (.int .u8 st) ∧ u.cell? ⟨w.heap.size, 1, none⟩ = some (.bool ex) ∧ u.cell? ⟨w.heap.size, 2, none⟩ = some (.bool wr) ∧ u.cell? ⟨w.heap.size, 3, none⟩ = some (.int .u16 ow) ∧ u.cell? ⟨w.heap.size, 4, none⟩ = some (.int .u64 ep) ∧ Below W.heap.size W u)) := Lib.hid (fun u hu => ⟨(hB.belowS hu).cell 0, (hB.belowS hu).cell 1, (hB.belowS hu).cell 2, (hB.belowS hu).cell 3, (hB.belowS hu).cell 4, hu⟩)
  have hbd : Below W.heap.size W W.drew := (Below.refl _ _).drew
  clear hB
  go_region_held3 (fun u => u.cell? ⟨w.heap.size, 0, none⟩ = some (.int .u8 st) ∧ u.cell? ⟨w.heap.size, 1, none⟩ = some (.bool ex) ∧ u.cell? ⟨w.heap.size, 2, none⟩ = some (.bool wr) ∧ u.cell? ⟨w.heap.size, 3, none⟩ = some (.int .u16 ow) ∧ u.cell? ⟨w.heap.size, 4, none⟩ = some (.int .u64 ep) ∧ Below W.heap.size W u)
    (first | with_reducible exact KK.out _ hG | with_reducible exact KK.out _ hF | with_reducible exact KK.out _ hE | with_reducible exact KK.out _ hD | with_reducible exact KK.out _ hC | with_reducible exact KK.out _ hB | with_reducible exact KK.out _ hA | with_reducible exact KK.out _ hbd)
    (first | (go_at_call 14; (with_reducible refine (inw C1.out W _ hbd).mono ?_); rintro e wA ⟨rfl, hA⟩) | (go_at_call 15; (with_reducible refine (inw C2.out W _ hA).mono ?_); rintro e wB ⟨rfl, hB⟩) | (go_at_call 16; (with_reducible refine (inw C3.out W _ hB).mono ?_); rintro e wC ⟨rfl, hC⟩) | (go_at_call 17; (with_reducible refine (inw C4.out W _ hC).mono ?_); rintro e wD ⟨rfl, hD⟩) | (go_at_call 18; (with_reducible refine (inw C5.out W _ hD).mono ?_); rintro e wE ⟨rfl, hE⟩) | (go_at_call 19; (with_reducible refine (inw C6.out W _ hE).mono ?_); rintro e wF ⟨rfl, hF⟩) | (go_at_call 9; (with_reducible refine (inw C7.out W _ hF).mono ?_); rintro e wG ⟨rfl, hG⟩))
  rename_i hHeld
  clear hHeld
  go_wp2_with fail
  go_ret
  exact ⟨rfl, hwW.trans (hG.mono hwW.size)⟩
end Go.Proofs.Ythpdpocglfafaaa.WK
