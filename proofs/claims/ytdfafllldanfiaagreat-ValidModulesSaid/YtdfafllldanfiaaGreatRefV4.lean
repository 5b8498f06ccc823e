/-
  What the reference of layer 11 tells: calls that nothing names. Nothing here is a statement of the seed.
-/
import Derived.Test.YtdfafllldanfiaaGreatRefV1
set_option linter.unusedSimpArgs false
set_option linter.unusedVariables false
namespace Go.Proofs.YtdfafllldanfiaaGreat.VR
open Go.RowKit WM NR OM OR VM
set_option maxHeartbeats 4000000
set_option maxRecDepth 10000
theorem named_succ (m : Md) (i t : Nat) : namedB m i (t + 1) = (namedB m i t || (decide ((rl m t).at_ = i) && inC (rl m t).kind)) := by
  unfold namedB
  rw [List.range_succ, List.any_append]
  simp
section
variable {w : World} {ea : Option Addr} {en ec : Nat} {ia : Option Addr} {im ic : Nat} {ca : Option Addr} {cn cc : Nat} {da : Option Addr} {dn dc : Nat} {ra : Option Addr} {rn rc : Nat} {m : Md}
theorem refLoose_any (h : RdM (· < w.heap.size) w ea en ec ia im ic ca cn cc da dn dc ra rn rc m) (hc : chkM m = 0) (hf : FineM m) :
    Calls Tryz.prog 20 #[mV (bs m.name) ea en ec ia im ic ca cn cc da dn dc ra rn rc] w fun e w' => e = .returned (.int .i64 (ff (looseB m) cn)) ∧ Below w.heap.size w w' := by
  obtain ⟨l1, l2, l3, l4, l5⟩ := h.lens
  have b0 := below_new w (.cells (mCs (bs m.name) ea en ec ia im ic ca cn cc da dn dc ra rn rc) 26)
  have HB := Lib.hid b0
  have HX := Lib.hid (Whole.new w 26 (mCs (bs m.name) ea en ec ia im ic ca cn cc da dn dc ra rn rc))
  obtain ⟨⟨_, k2, k3, k4, k5⟩, _⟩ := chk_ok hc
  have HR := Lib.hid h.rl
  have HL := Lib.hid l5
  have HF := Lib.hid (fun (k : Nat) (hk : k < rn) => hf.rels _ (mem_getD (l := m.rels) (d := ⟨0, 0, 0⟩) (i := k) (by omega)))
  have hrn : (rn : Int) ≤ 256 := by omega
  have hrc : (rn : Int) ≤ rc := by have := h.rl.len.2.1; omega
  have HI1 := Lib.hid h.cd
  have HLc := Lib.hid l3
  have HFc := Lib.hid (fun (k : Nat) (hk : k < cn) => hf.code _ (mem_getD (l := m.code) (d := 0) (i := k) (by omega)))
  have hcn : (cn : Int) ≤ 512 := by omega
  have hcc : (cn : Int) ≤ cc := by have := (reads_len h.cd).2.1; omega
  obtain ⟨E, hE⟩ : ∃ E, E = ff (looseB m) cn := ⟨_, rfl⟩
  rw [← hE]
  have HE := Lib.hid hE
  clear hE h hc hf l1 l2 l3 l4 l5 k2 k3 k4 k5 b0
  generalize bs m.name = x at *
  go_enter Tryz.func20, Tryz.ntmps20
  go_wp2_with fail
  generalize w.alloc (.cells (mCs x ea en ec ia im ic ca cn cc da dn dc ra rn rc) 26) = W at *
  go_loopw [3] (fun i wr => ∃ k : Nat, k ≤ cn ∧ i = .int .i64 (k : Int) ∧ Hid (∀ j, j < k → looseB m j = false) ∧ Below W.heap.size W wr) (fun i _ => cn - (intOf i).toNat)
  case atStart => exact ⟨0, by omega, rfl, Lib.hid (fun j hj => by omega), Below.refl _ _⟩
  case round =>
    obtain ⟨k, hk, rfl, hp, hbl⟩ := hrel
    obtain ⟨c0, c1, c2, c3, c4, c5⟩ := mod_cells (HX.out.belowS hbl)
    have c6 := (HX.out.belowS hbl).lt
    have hbw := HB.out.trans (hbl.mono HB.out.size)
    by_cases hlt : k < cn
    · have hlt' : (k : Int) < cn := by omega
      obtain ⟨g, off, rfl, q1, e1⟩ := reads_at HI1.out hbw hlt
      have k1 : k < m.code.length := by rw [HLc.out]; exact hlt
      rw [words_at k1] at e1
      obtain ⟨o, xd, xa, xb, xm, xe, C0, ho, hxm, he⟩ := ref_parts ((m.code.getD k 0 : Nat) : Int) (by have := HFc.out k hlt; omega)
      have CD := Lib.hid C0
      have hB : looseB m k = (decide (o = 17) && !namedB m k m.rels.length) := by rw [ho]; rfl
      rw [HL.out] at hB
      have HB17 := Lib.hid hB
      clear C0 ho hxm he k1 hB
      generalize ((m.code.getD k 0 : Nat) : Int) = y at *
      go_upto_region 5 with (go_at_call 40; (with_reducible refine (CD.out.at _).mono ?_); rintro e w2 ⟨rfl, hb2⟩)
      have HY := Lib.hid (Whole.new w2 61 #[.int .u8 o, .int .u8 xd, .int .u8 xa, .int .u8 xb, .int .i32 xm])
      have b3 := hb2.alloc hb2.size (.cells #[.int .u8 o, .int .u8 xd, .int .u8 xa, .int .u8 xb, .int .i32 xm] 61)
      have HXb := Lib.hid ((HX.out.belowS hbl).below b3 (HX.out.belowS hbl).lt)
      have hB1 := hbw.trans (b3.mono hbw.size)
      have hB2 := hbl.trans (b3.mono hbl.size)
      generalize w2.alloc (.cells #[.int .u8 o, .int .u8 xd, .int .u8 xa, .int .u8 xb, .int .i32 xm] 61) = W2 at *
      clear c0 c1 c2 c3 c4 c5 c6 e1 b3 hb2 HI1 CD
      go_wp2_with fail
      go_loopw [6, 7] (fun b i wr2 => ∃ t : Nat, t ≤ rn ∧ i = .int .i64 (t : Int) ∧ (∃ z : Bool, b = .bool z ∧ Hid (z = namedB m k t)) ∧ Below W2.heap.size W2 wr2) (fun _ i _ => rn - (intOf i).toNat)
      case atStart => exact ⟨0, by omega, rfl, ⟨false, rfl, Lib.hid rfl⟩, Below.refl _ _⟩
      case round =>
        obtain ⟨t, ht, rfl, ⟨z, rfl, hz⟩, hbl2⟩ := hrel
        obtain ⟨c0, c1, c2, c3, c4, c5⟩ := mod_cells (HXb.out.belowS hbl2)
        have c6 := (HXb.out.belowS hbl2).lt
        have hbz := hB1.trans (hbl2.mono hB1.size)
        by_cases hlt2 : t < rn
        · have hlt2' : (t : Int) < rn := by omega
          obtain ⟨g', off', hga, q2, e0, e1, e2⟩ := HR.out.at hbz hlt2
          have hF := HF.out t hlt2
          change _ = some (Value.int .u8 ((rl m t).kind : Int)) at e0
          change _ = some (Value.int .u16 ((rl m t).at_ : Int)) at e1
          change _ = some (Value.int .u16 ((rl m t).wh : Int)) at e2
          change _ ∧ (rl m t).at_ < 65536 ∧ _ at hF
          have hwr : IntKind.i64.wrap ((rl m t).at_ : Int) = ((rl m t).at_ : Int) := by rw [IntKind.wrap_i64]; omega
          have hn := named_succ m k t
          have CI := Lib.hid (fun u => inCode_any (rl m t).kind u)
          subst hga
          clear hF
          cases z
          case true =>
            have hz2 := Lib.hid (show true = namedB m k (t + 1) by rw [hn, ← hz.out]; rfl)
            clear hz hn
            generalize ((rl m t).kind : Int) = z0 at *
            generalize ((rl m t).at_ : Int) = z1 at *
            generalize ((rl m t).wh : Int) = z2 at *
            go_wp2_with fail
            go_roundw
            case rel => exact ⟨t + 1, by omega, by go_num, ⟨true, rfl, hz2⟩, hbl2⟩
            case measure => simp [intOf]; omega
          case false =>
            by_cases hat : (rl m t).at_ = k
            · have hat' : ((rl m t).at_ : Int) = (k : Int) := by omega
              obtain ⟨ic, hic⟩ : ∃ ic, ic = inC (rl m t).kind := ⟨_, rfl⟩
              have hz2 := Lib.hid (show ic = namedB m k (t + 1) by rw [hn, ← hz.out, decide_eq_true hat, ← hic]; rfl)
              rw [← hic] at CI
              rw [hat'] at e1 hwr
              clear hz hn hat hat' hic
              generalize ((rl m t).kind : Int) = z0 at *
              generalize ((rl m t).wh : Int) = z2 at *
              go_wp2_with (go_at_call 41; (with_reducible refine (CI.out _).mono ?_); rintro e w1 ⟨rfl, rfl⟩)
              go_roundw
              case rel => exact ⟨t + 1, by omega, by go_num, ⟨ic, by first | rfl | simp, hz2⟩, hbl2⟩
              case measure => simp [intOf]; omega
            · have hat' : ((rl m t).at_ : Int) ≠ (k : Int) := by omega
              have hz2 := Lib.hid (show false = namedB m k (t + 1) by rw [hn, ← hz.out, decide_eq_false hat]; rfl)
              clear hz hn hat
              generalize ((rl m t).kind : Int) = z0 at *
              generalize ((rl m t).at_ : Int) = z1 at *
              generalize ((rl m t).wh : Int) = z2 at *
              go_wp2_with fail
              go_roundw
              case rel => exact ⟨t + 1, by omega, by go_num, ⟨false, by first | rfl | simp, hz2⟩, hbl2⟩
              case measure => simp [intOf]; omega
        · obtain rfl : t = rn := by omega
          have HYb := HY.out.belowS hbl2
          have y0 := HYb.cell 0
          simp at y0
          have y6 := HYb.lt
          clear HYb
          have hB := HB17.out
          rw [← hz.out] at hB
          by_cases h17 : o = 17
          · subst h17
            cases z
            case false =>
              have hh := Lib.hid (HE.out.trans (ff_yes hlt (by rw [hB]; rfl) hp.out))
              clear hB hp hz HB17
              go_wp2_with fail
              go_ret
              exact ⟨ret_int hh.out.symm, hbz⟩
            case true =>
              have hp2 := Lib.hid (fun j (hj : j < k + 1) => if h : j < k then hp.out j h else by rw [show j = k by omega, hB]; rfl)
              clear hB hp hz HB17
              go_wp2_with fail
              go_roundw
              case rel => exact ⟨k + 1, by omega, by go_num, hp2, hB2.trans (hbl2.mono hB2.size)⟩
              case measure => simp [intOf]; omega
          · have hp2 := Lib.hid (fun j (hj : j < k + 1) => if h : j < k then hp.out j h else by rw [show j = k by omega, hB, decide_eq_false h17]; rfl)
            clear hB hp hz HB17
            go_wp2_with fail
            go_roundw
            case rel => exact ⟨k + 1, by omega, by go_num, hp2, hB2.trans (hbl2.mono hB2.size)⟩
            case measure => simp [intOf]; omega
    · obtain rfl : k = cn := by omega
      have hh := Lib.hid (HE.out.trans (ff_no hp.out))
      clear hp
      go_wp2_with fail
      go_ret
      exact ⟨ret_int hh.out.symm, hbw⟩
end
end Go.Proofs.YtdfafllldanfiaaGreat.VR
