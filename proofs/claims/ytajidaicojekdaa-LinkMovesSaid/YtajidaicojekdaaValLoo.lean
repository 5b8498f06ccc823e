/-
  A call that no relocation names. Nothing here is a statement of the seed.
-/
import Derived.Test.YtajidaicojekdaaValNam
set_option linter.unusedSimpArgs false
set_option linter.unusedVariables false
namespace Go.Proofs.Ytajidaicojekdaa.VR
open Go.RowKit WM NR OM OR VM
set_option maxHeartbeats 4000000
set_option maxRecDepth 10000
theorem kinds_7 {m : Md} (hc : chkM m = 0) {k : Nat} (hk : k < m.rels.length) : (rl m k).kind ≤ 7 := (chk_ok hc).2.2.2.2 _ (mem_getD hk)
theorem nf_none {l : List Rl} {n : Nat} {d : Bool} {a : Int} : (nfF l n d a).isSome = (List.range n).any fun i => spB l d a i := by
  unfold nfF
  rcases ff_range (spB l d a) n with h | ⟨i, hi, h, hp, hb⟩
  · rw [h, if_neg (by omega)]
    have hn : ∀ j, j < n → spB l d a j = false := ff_neg.1 (by omega)
    symm
    rw [Option.isSome_none, List.any_eq_false]
    intro j hj
    rw [hn j (by simpa using hj)]
    simp
  · rw [h, if_pos (by omega)]
    symm
    rw [Option.isSome_some, List.any_eq_true]
    exact ⟨i, by simpa using hi, hp⟩
theorem named_nf {m : Md} (hc : chkM m = 0) (k : Nat) : (nfF m.rels m.rels.length false (k : Int)).isSome = namedB m k m.rels.length := by
  rw [nf_none]
  unfold namedB
  rw [Bool.eq_iff_iff, List.any_eq_true, List.any_eq_true]
  constructor
  · rintro ⟨i, hi, h⟩
    have h7 := kinds_7 hc (k := i) (by simpa using hi)
    have h : decide (((rl m i).at_ : Int) = k ∧ ofD ((rl m i).kind : Int) = false) = true := h
    rw [decide_eq_true_eq] at h
    refine ⟨i, hi, ?_⟩
    rw [decide_eq_true (show (rl m i).at_ = k by omega)]
    have := ofD_inC h7
    rw [h.2] at this
    simpa using this.symm
  · rintro ⟨i, hi, h⟩
    have h7 := kinds_7 hc (k := i) (by simpa using hi)
    rw [Bool.and_eq_true, decide_eq_true_eq] at h
    refine ⟨i, hi, ?_⟩
    show decide (((rl m i).at_ : Int) = k ∧ ofD ((rl m i).kind : Int) = false) = true
    rw [decide_eq_true_eq]
    refine ⟨by omega, ?_⟩
    rw [ofD_inC h7, h.2]
    rfl
section
variable {w : World} {ea : Option Addr} {en ec : Nat} {ia : Option Addr} {im ic : Nat} {ca : Option Addr} {cn cc : Nat} {da : Option Addr} {dn dc : Nat} {ra : Option Addr} {rn rc : Nat} {m : Md}
theorem RdM.up {G : Nat → Prop} {u : World} (h : RdM G u ea en ec ia im ic ca cn cc da dn dc ra rn rc m) {G' : Nat → Prop} (hG : ∀ g, G g → G' g) : RdM G' u ea en ec ia im ic ca cn cc da dn dc ra rn rc m := ⟨h.ex.mono hG, h.im.mono hG, h.cd.mono hG, h.dt.mono hG, h.rl.mono hG⟩
theorem looseCall_any (h : RdM (· < w.heap.size) w ea en ec ia im ic ca cn cc da dn dc ra rn rc m) (hc : chkM m = 0) (hf : FineM m) :
    Calls Try.prog 117 #[mV (bs m.name) ea en ec ia im ic ca cn cc da dn dc ra rn rc] w fun e w' => e = .returned (.int .i64 (ff (looseB m) cn)) ∧ Below w.heap.size w w' := by
  obtain ⟨l1, l2, l3, l4, l5⟩ := h.lens
  obtain ⟨k1, _, _, _, _⟩ := chk_ok hc
  have b0 := below_new w (.cells (mCs (bs m.name) ea en ec ia im ic ca cn cc da dn dc ra rn rc) 45)
  have HB := Lib.hid b0
  have HX := Lib.hid (Whole.new w 45 (mCs (bs m.name) ea en ec ia im ic ca cn cc da dn dc ra rn rc))
  have CN := Lib.hid (namedFirst_any (h.go b0 b0.size).rl (fun k hk => by have := (hf.rels _ (mem_getD (d := ⟨0, 0, 0⟩) (show k < m.rels.length by omega))).2.1; omega))
  have HR := Lib.hid h.cd
  have HL := Lib.hid l3
  have hcn : (cn : Int) ≤ 512 := by omega
  have HF := Lib.hid (fun (k : Nat) (hk : k < cn) => hf.code _ (mem_getD (l := m.code) (d := 0) (i := k) (by omega)))
  obtain ⟨_, m1, m2⟩ := reads_len h.cd
  have hcc : (cn : Int) ≤ cc := by omega
  obtain ⟨fN, hfN⟩ : ∃ g, g = nfF m.rels rn := ⟨_, rfl⟩
  have HN := Lib.hid (fun k : Nat => show (fN false (k : Int)).isSome = namedB m k m.rels.length by rw [hfN, ← l5]; exact named_nf hc k)
  rw [← hfN] at CN
  obtain ⟨E, hE⟩ : ∃ E, E = ff (looseB m) cn := ⟨_, rfl⟩
  rw [← hE]
  have HE := Lib.hid hE
  clear hE hfN h hc hf l1 l2 l3 l4 l5 k1 b0 m1 m2
  generalize bs m.name = x at *
  go_enter Try.func117, Try.ntmps117
  obtain ⟨c0, c1, c2, c3, c4, c5⟩ := mod_cells HX.out
  go_wp2_with (go_at_call 138; (with_reducible refine CN.out.mono ?_); rintro e w1 ⟨b, rfl, hbm, hm1, hb1⟩; have HM := Lib.hid hm1; have HB1 := Lib.hid (HB.out.trans (hb1.mono HB.out.size)); obtain ⟨d0, d1, d2, d3, d4, d5⟩ := mod_cells (HX.out.belowS hb1); clear c0 c1 c2 c3 c4 c5 hb1 hm1)
  clear d0 d1 d2 d4 d5 CN
  go_loopw [16] (fun i wr => ∃ k : Nat, k ≤ cn ∧ i = .int .i64 (k : Int) ∧ Hid (∀ j, j < k → looseB m j = false) ∧ Below w1.heap.size w1 wr) (fun i _ => cn - (intOf i).toNat)
  case atStart => exact ⟨0, by omega, rfl, Lib.hid (fun j hj => by omega), Below.refl _ _⟩
  case round =>
    obtain ⟨k, hk, rfl, hp, hbl⟩ := hrel
    by_cases hlt : k < cn
    · have hlt' : (k : Int) < cn := by omega
      have hbw := HB1.out.trans (hbl.mono HB1.out.size)
      obtain ⟨g, off, rfl, q1, c1⟩ := reads_at HR.out hbw hlt
      have kl : k < m.code.length := by rw [HL.out]; exact hlt
      rw [words_at kl] at c1
      have L := (HM.out.belowS hbl).look_ok false (k : Int) (by omega)
      rw [HN.out k] at L
      have hwr : IntKind.u16.wrap (k : Int) = k := by rw [show IntKind.u16.wrap (k : Int) = (k : Int) % 65536 from rfl]; omega
      obtain ⟨o, xd, xa, xb, xm, xe, C0, ho, _, _⟩ := dec_parts ((m.code.getD k 0 : Nat) : Int) (by have := HF.out k hlt; omega)
      have CD := Lib.hid C0
      have hB : looseB m k = (decide (o = 17) && !namedB m k m.rels.length) := by rw [ho]; rfl
      clear C0 ho kl hbw
      generalize ((m.code.getD k 0 : Nat) : Int) = y at *
      generalize namedB m k m.rels.length = t at *
      generalize (fN false (k : Int)).getD 0 = v at *
      by_cases h17 : o = 17
      · subst h17
        cases t
        case false =>
          have hh := Lib.hid (HE.out.trans (ff_yes hlt (by rw [hB]; rfl) hp.out))
          clear hB hp
          go_wp2_with (go_at_call 73; (with_reducible refine (CD.out.at _).mono ?_); rintro e w2 ⟨rfl, hb2⟩)
          go_ret
          exact ⟨ret_int hh.out.symm, HB1.out.trans ((hbl.trans ((hb2.alloc hb2.size _).mono hbl.size)).mono HB1.out.size)⟩
        case true =>
          have hp2 := Lib.hid (fun j (hj : j < k + 1) => if h : j < k then hp.out j h else by rw [show j = k by omega, hB]; rfl)
          clear hB hp
          go_wp2_with (go_at_call 73; (with_reducible refine (CD.out.at _).mono ?_); rintro e w2 ⟨rfl, hb2⟩)
          go_roundw
          case rel => exact ⟨k + 1, by omega, by go_num, hp2, hbl.trans ((hb2.alloc hb2.size _).mono hbl.size)⟩
          case measure => simp [intOf]; omega
      · have hp2 := Lib.hid (fun j (hj : j < k + 1) => if h : j < k then hp.out j h else by rw [show j = k by omega, hB, decide_eq_false h17]; rfl)
        clear hB hp
        go_wp2_with (go_at_call 73; (with_reducible refine (CD.out.at _).mono ?_); rintro e w2 ⟨rfl, hb2⟩)
        go_roundw
        case rel => exact ⟨k + 1, by omega, by go_num, hp2, hbl.trans ((hb2.alloc hb2.size _).mono hbl.size)⟩
        case measure => simp [intOf]; omega
    · obtain rfl : k = cn := by omega
      have hh := Lib.hid (HE.out.trans (ff_no hp.out))
      clear hp
      go_wp2_with fail
      go_ret
      exact ⟨ret_int hh.out.symm, HB1.out.trans (hbl.mono HB1.out.size)⟩
end
end Go.Proofs.Ytajidaicojekdaa.VR
