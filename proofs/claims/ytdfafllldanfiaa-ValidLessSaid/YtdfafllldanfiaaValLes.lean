/-
  Without its last import, and with a halt more: the walk of ValidLess. Nothing here is a statement of the seed.
-/
import Derived.Test.YtdfafllldanfiaaValOne
import Derived.Test.YtdfafllldanfiaaValApp
import Derived.Lib.AppendZeros
set_option linter.unusedSimpArgs false
set_option linter.unusedVariables false
namespace Go.Proofs.Ytdfafllldanfiaa.VR
open Go.RowKit WM NR OM OR VM
theorem BJ.keep {w u u' : World} {cs : Array Value} (h : BJ w cs u) (hb : Below (w.heap.size + 1) u u') : BJ w cs u' := ⟨h.X.below hb (by omega), h.B.trans ⟨hb.os, hb.tape, hb.output, hb.size, fun k hk => hb.block k (by omega)⟩, Nat.le_trans h.sz hb.size⟩
theorem fine_code {m : Md} (h : FineM m) : FineM { m with code := m.code ++ [0] } := ⟨fun x hx => by
  have hx : x ∈ m.code ++ [0] := hx
  rw [List.mem_append, List.mem_singleton] at hx
  rcases hx with hx | rfl
  · exact h.code x hx
  · omega, h.data, h.rels⟩
theorem chkV_good {m : Md} (h : VM.Good m) : chkV m = 0 := by
  unfold chkV
  rw [h.vld, if_pos rfl]
theorem below_row {B : Nat} {a b c : World} {r : Option Nat} (h : Below B a b) (k : b.grownBy c r) (hr : ∀ g, r = some g → B ≤ g) (hB : B ≤ b.heap.size) : Below B a c := by
  cases r with
  | none => exact ⟨k.os.trans h.os, k.tape.trans h.tape, k.output.trans h.output, Nat.le_trans h.size k.size, fun i hi => (k.block i (Nat.lt_of_lt_of_le hi hB) (by simp)).trans (h.block i hi)⟩
  | some p => exact below_then h k (hr p rfl) hB
theorem new_cells {u : World} {xs : List Value} {t : TypeId} : ∀ j y, xs[j]? = some y → (u.alloc (.cells xs.toArray t)).cell? ((⟨u.heap.size, 0, none⟩ : Addr).add j) = some y := fun j y h => by
  rw [Addr.add_lit, Nat.zero_add, (Whole.new u t xs.toArray).cell j]
  simpa using h
theorem BJ.row {w u u' : World} {cs : Array Value} {r : Option Nat} {e : TypeId} {B : Nat} (h : BJ w cs u) (hg : u.grownBy u' r) (hr : ∀ g, r = some g → B ≤ g ∧ ∃ cur, Whole u g e cur) (hne : 26 ≠ e) (hB : w.heap.size ≤ B) : BJ w cs u' :=
  ⟨box_turn h.X hg (fun g hg' => (hr g hg').2) hne, below_row h.B hg (fun g hg' => Nat.le_trans hB (hr g hg').1) h.B.size, Nat.le_trans h.sz hg.size⟩
theorem BJ.set_ {w u : World} {cs : Array Value} (h : BJ w cs u) {b i : Nat} (hb : w.heap.size < b) (v : Value) : BJ w cs (u.setCell ⟨b, i, none⟩ v) :=
  ⟨h.X.far (p := ⟨b, i, none⟩) (by show w.heap.size ≠ b; omega) v, h.B.setCell (p := ⟨b, i, none⟩) (by show w.heap.size ≤ b; omega) v, by simpa using h.sz⟩
/-- the last import cut off -/
theorem less_imps {B : Nat} {u : World} {ea : Option Addr} {en ec : Nat} {ia : Option Addr} {im ic : Nat} {ca : Option Addr} {cn cc : Nat} {da : Option Addr} {dn dc : Nat} {ra : Option Addr} {rn rc : Nat} {m : Md} (h : OwnD B m u ea en ec ia im ic ca cn cc da dn dc ra rn rc) {b : Nat} {cs : Array Value} (hX : Whole u b 26 cs) (h0 : 0 < im) :
    ∃ (a : Option Addr) (n c : Nat), (∀ u' : World, (Instr.slice 22 (.slice ia im ic) none (some (.int .i64 ((im : Int) - 1))) none).run Try.prog u' = .ok (.slice a n c) u') ∧ RdM (fun _ => True) (u.setCell ⟨b, 2, none⟩ (.slice a n c)) ea en ec a n c ca cn cc da dn dc ra rn rc { m with imps := m.imps.dropLast } := by
  have hl := h.own.reads.lens.2.1
  obtain ⟨v, r, T⟩ := (Reads.of_owns h.own.im).take (P := Try.prog) elemTexts sizeText (im - 1) (by rw [strs_len]; omega)
  obtain ⟨a, n, c, rfl⟩ := T.form
  refine ⟨a, n, c, fun u' => by have := r .i64 u'; rwa [show ((im - 1 : Nat) : Int) = (im : Int) - 1 by omega] at this, ?_⟩
  have O := (h.own.box hX 2 (.slice a n c)).reads
  refine ⟨O.ex.mono fun _ _ => trivial, ?_, O.cd.mono fun _ _ => trivial, O.dt.mono fun _ _ => trivial, O.rl.mono fun _ _ => trivial⟩
  have e : (strs m.imps).take (im - 1) = strs m.imps.dropLast := by
    rw [List.dropLast_eq_take, hl]
    simp [strs]
  rw [e] at T
  refine (T.keep fun g hg _ => Below.heap_setCell _ _ _ _ ?_).mono fun _ _ => trivial
  obtain ⟨cur, hc⟩ := owns_whole h.own.im hg.2
  exact Whole.ne_ (w := u) hc hX (by decide)
theorem below_set {B : Nat} {w u : World} (h : Below B w u) {b i : Nat} (hb : B ≤ b) (v : Value) : Below B w (u.setCell ⟨b, i, none⟩ v) := h.setCell (p := ⟨b, i, none⟩) hb v
end Go.Proofs.Ytdfafllldanfiaa.VR
namespace Go.Proofs.Ytdfafllldanfiaa.WK
open Go.RowKit WM NR OM OR VM VR
set_option maxHeartbeats 4000000
set_option maxRecDepth 10000
section
variable {w : World} {ea : Option Addr} {en ec : Nat} {ia : Option Addr} {im ic : Nat} {ca : Option Addr} {cn cc : Nat} {da : Option Addr} {dn dc : Nat} {ra : Option Addr} {rn rc : Nat} {m : Md}
theorem ValidLess_walk (h : RdM (· < w.heap.size) w ea en ec ia im ic ca cn cc da dn dc ra rn rc m) (hf : FineM m) :
    Calls Try.prog 5 #[mV (bs m.name) ea en ec ia im ic ca cn cc da dn dc ra rn rc] w fun e w' => e = .returned (.bool true) ∧ Below w.heap.size w w' := by
  have J0 := Lib.hid (BJ.new w (mCs (bs m.name) ea en ec ia im ic ca cn cc da dn dc ra rn rc))
  have S1 := Lib.hid (fun (u : World) (hb : Below w.heap.size w u) => size_any (h.go hb hb.size))
  have K1 := Lib.hid (fun (u : World) (hb : Below w.heap.size w u) => vcheck_any (h.go hb hb.size) hf)
  have AW := Lib.hid (fun (u : World) => awake_any u)
  by_cases z1 : szF en [im, cn, dn, rn] ≤ 2000
  case neg =>
    have z1' : (2000 : Int) < (szF en [im, cn, dn, rn] : Nat) := by omega
    clear z1 K1 h hf
    generalize bs m.name = x at *
    generalize ((szF en [im, cn, dn, rn] : Nat) : Int) = s1 at *
    go_enter Try.func5, Try.ntmps5
    go_upto_region 1 with fail
    generalize w.alloc (.cells (mCs x ea en ec ia im ic ca cn cc da dn dc ra rn rc) 26) = W0 at *
    obtain ⟨c0, c1, c2, c3, c4, c5⟩ := mod_cells J0.out.X
    have c6 := J0.out.X.lt
    go_wp2_with (first | (go_at_call 8; (with_reducible refine (S1.out _ J0.out.B).mono ?_); rintro e w1 ⟨rfl, hb⟩; have J1 := Lib.hid (J0.out.belowS hb); obtain ⟨d0, d1, d2, d3, d4, d5⟩ := mod_cells J1.out.X; have d6 := J1.out.X.lt; clear hb) | (go_at_call 9; (with_reducible refine (AW.out _).mono ?_); rintro e w2 ⟨rfl, hb⟩; have J2 := Lib.hid (J1.out.belowS hb); clear hb))
    go_ret
    exact ⟨rfl, J2.out.B⟩
  have z1' : ((szF en [im, cn, dn, rn] : Nat) : Int) ≤ 2000 := by omega
  have hz5 := szF_five z1
  clear z1
  by_cases hk : chkV m = 0
  case neg =>
    have hk2 : (chkV m != 0) = true := by simpa using hk
    clear h hf hz5
    generalize chkV m = q at *
    generalize bs m.name = x at *
    generalize ((szF en [im, cn, dn, rn] : Nat) : Int) = s1 at *
    go_enter Try.func5, Try.ntmps5
    go_upto_region 1 with fail
    generalize w.alloc (.cells (mCs x ea en ec ia im ic ca cn cc da dn dc ra rn rc) 26) = W0 at *
    obtain ⟨c0, c1, c2, c3, c4, c5⟩ := mod_cells J0.out.X
    have c6 := J0.out.X.lt
    go_wp2_with (first | (go_at_call 8; (with_reducible refine (S1.out _ J0.out.B).mono ?_); rintro e w1 ⟨rfl, hb⟩; have J1 := Lib.hid (J0.out.belowS hb); obtain ⟨d0, d1, d2, d3, d4, d5⟩ := mod_cells J1.out.X; have d6 := J1.out.X.lt; clear hb) | (go_at_call 12; (with_reducible refine (K1.out _ J1.out.B).mono ?_); rintro e w2 ⟨rfl, hb⟩; have J2 := Lib.hid (J1.out.belowS hb); clear hb) | (go_at_call 9; (with_reducible refine (AW.out _).mono ?_); rintro e w3 ⟨rfl, hb⟩; have J3 := Lib.hid (J2.out.belowS hb); clear hb))
    go_ret
    exact ⟨rfl, J3.out.B⟩
  have hg := chk_good hk
  rw [hk] at K1
  clear hk
  obtain ⟨l1, l2, l3, l4, l5⟩ := h.lens
  obtain ⟨⟨y1, y2, y3, y4, y5⟩, y6, y7, y8, y9⟩ := chk_ok hg.ck
  have CP := Lib.hid (fun (u : World) (hb : Below w.heap.size w u) => refCopyO_any (h.go hb hb.size) ⟨by omega, by omega, by omega, by omega, by omega⟩)
  have CH : Hid (cn < 512 → ∀ (u : World) (ea : Option Addr) (en ec : Nat) (ia : Option Addr) (im ic : Nat) (ca : Option Addr) (cn cc : Nat) (da : Option Addr) (dn dc : Nat) (ra : Option Addr) (rn rc : Nat), RdM (· < u.heap.size) u ea en ec ia im ic ca cn cc da dn dc ra rn rc { m with code := m.code ++ [0] } → Calls Try.prog 12 #[mV (bs m.name) ea en ec ia im ic ca cn cc da dn dc ra rn rc] u fun e w' => e = .returned (.int .i64 0) ∧ Below u.heap.size u w') := Lib.hid fun hlt u _ _ _ _ _ _ _ _ _ _ _ _ _ _ _ hR => by
    have := vcheck_any hR (fine_code hf)
    rw [chkV_good (good_halt hg (by omega))] at this
    exact this
  have CL : Hid (0 < im → (∀ k, k < rn → (rl m k).kind = 0 ∨ (rl m k).kind = 1 ∨ (rl m k).kind = 4 → ((rl m k).wh : Int) ≠ (im : Int) - 1) → ∀ (u : World) (ea : Option Addr) (en ec : Nat) (ia : Option Addr) (im ic : Nat) (ca : Option Addr) (cn cc : Nat) (da : Option Addr) (dn dc : Nat) (ra : Option Addr) (rn rc : Nat), RdM (· < u.heap.size) u ea en ec ia im ic ca cn cc da dn dc ra rn rc { m with imps := m.imps.dropLast } → Calls Try.prog 12 #[mV (bs m.name) ea en ec ia im ic ca cn cc da dn dc ra rn rc] u fun e w' => e = .returned (.int .i64 0) ∧ Below u.heap.size u w') := Lib.hid fun hpos hu u _ _ _ _ _ _ _ _ _ _ _ _ _ _ _ hR => by
    have := vcheck_any hR (show FineM { m with imps := m.imps.dropLast } from ⟨hf.code, hf.data, hf.rels⟩)
    rw [chkV_good (good_less hg (fun i hi hk => by rw [l2]; have := hu i (by omega) hk; omega))] at this
    exact this
  have HR := Lib.hid h.rl
  have HF := Lib.hid (fun (k : Nat) (hk : k < rn) => hf.rels _ (mem_getD (l := m.rels) (d := ⟨0, 0, 0⟩) (i := k) (by omega)))
  have him : (im : Int) ≤ 16 := by omega
  have hrn : (rn : Int) ≤ 256 := by omega
  have hrc : (rn : Int) ≤ rc := by have := h.rl.len.2.1; omega
  have HL := Lib.hid (And.intro l1 (And.intro l2 (And.intro l3 (And.intro l4 l5))))
  have hcn5 : cn ≤ 65536 := by omega
  clear h hf hg l1 l2 l3 l4 l5 y1 y2 y3 y4 y5 y6 y7 y8 y9 hz5
  generalize bs m.name = x at *
  generalize ((szF en [im, cn, dn, rn] : Nat) : Int) = s1 at *
  go_enter Try.func5, Try.ntmps5
  go_upto_region 1 with fail
  generalize w.alloc (.cells (mCs x ea en ec ia im ic ca cn cc da dn dc ra rn rc) 26) = W0 at *
  obtain ⟨c0, c1, c2, c3, c4, c5⟩ := mod_cells J0.out.X
  have c6 := J0.out.X.lt
  go_upto_region 3 with (first | (go_at_call 8; (with_reducible refine (S1.out _ J0.out.B).mono ?_); rintro e w1 ⟨rfl, hb⟩; have J1 := Lib.hid (J0.out.belowS hb); obtain ⟨d0, d1, d2, d3, d4, d5⟩ := mod_cells J1.out.X; have d6 := J1.out.X.lt; clear hb) | (go_at_call 12; (with_reducible refine (K1.out _ J1.out.B).mono ?_); rintro e w2 ⟨rfl, hb⟩; have J2 := Lib.hid (J1.out.belowS hb); clear hb))
  clear c0 c1 c2 c3 c4 c5 c6 d0 d1 d2 d3 d4 d5 d6 J0 J1 S1 K1
  obtain ⟨c0, c1, c2, c3, c4, c5⟩ := mod_cells J2.out.X
  have c6 := J2.out.X.lt
  by_cases hcn : cn < 512
  · have hcn' : (cn : Int) < 512 := by omega
    go_upto_region 5 with (go_at_call 14; (with_reducible refine (CP.out _ J2.out.B).mono ?_); rintro e w3 ⟨ea2, en2, ec2, ia2, im2, ic2, ca2, cn2, cc2, da2, dn2, dc2, ra2, rn2, rc2, rfl, hO, hb⟩; have OD := Lib.hid hO; have J3 := Lib.hid (J2.out.belowS hb); obtain ⟨_, _, k3, _, _⟩ := hO.own.reads.lens; obtain rfl : cn2 = cn := (by have := HL.out.2.2.1; omega); have hsz := hb.size; clear hb hO k3)
    have X4 := Whole.new w3 26 (mCs x ea2 en2 ec2 ia2 im2 ic2 ca2 cn2 cc2 da2 dn2 dc2 ra2 rn2 rc2)
    have b4 := below_new w3 (.cells (mCs x ea2 en2 ec2 ia2 im2 ic2 ca2 cn2 cc2 da2 dn2 dc2 ra2 rn2 rc2) 26)
    have O4 := OD.out.belowS b4
    have J4 := J3.out.belowS b4
    have s4 := b4.size
    clear b4
    generalize w3.alloc (.cells (mCs x ea2 en2 ec2 ia2 im2 ic2 ca2 cn2 cc2 da2 dn2 dc2 ra2 rn2 rc2) 26) = W4 at *
    have b5 := below_new W4 (.cells #[.int .u32 0] 39)
    obtain ⟨a5, c5', u5, hr5, O5, hg5, hB5⟩ := app_cd (ty := 23) (O4.belowS b5) (by have := b5.size; omega) ⟨W4.heap.size, 0, none⟩ 0 (new_cells (xs := u32s [0])) (by omega)
    have X5 := box_turn (X4.belowS b5) hg5 (fun g hg => (hB5 g hg).2) (by decide)
    have J5 := (J4.belowS b5).row hg5 hB5 (by decide) (by have := J2.out.B.size; omega)
    have R5 := Lib.hid (O5.box X5 3 (.slice a5 (cn2 + 1) c5')).lt
    have J6 := Lib.hid (J5.set_ (b := w3.heap.size) (i := 3) (by have := J3.out.sz; omega) (.slice a5 (cn2 + 1) c5'))
    obtain ⟨d0, d1, d2, d3, d4, d5⟩ := mod_cells X4
    have d6 := X4.lt
    obtain ⟨e0, e1, e2, e3, e4, e5⟩ := mod_cells X5
    have e6 := X5.lt
    have f3 := X5.frozen 3
    clear c0 c1 c2 c3 c4 c5 c6 X4 O4 J4 b5 O5 X5 J5 OD J3 hg5 hB5
    go_upto_region 8 with (first | (at_builtin; refine Lib.wpList_append_run _ rfl _ _ _ _ rfl _ _ rfl rfl _ _ hr5 ?_) | (go_at_call 12; (with_reducible refine (CH.out hcn _ _ _ _ _ _ _ _ _ _ _ _ _ _ _ _ R5.out).mono ?_); rintro e w6 ⟨rfl, hb⟩; have J7 := Lib.hid (J6.out.belowS hb); clear hb))
    clear d0 d1 d2 d3 d4 d5 d6 e0 e1 e2 e3 e4 e5 e6 f3 J6 R5 J2 hr5
    obtain ⟨c0, c1, c2, c3, c4, c5⟩ := mod_cells J7.out.X
    have c6 := J7.out.X.lt
    go_wp2_with fail
    clear c0 c1 c2 c3 c4 c5 c6
    go_loopw [5] (fun i wr => ∃ k : Nat, k ≤ rn ∧ i = .int .i64 (k : Int) ∧ Hid (∀ j, j < k → (rl m j).kind = 0 ∨ (rl m j).kind = 1 ∨ (rl m j).kind = 4 → ((rl m j).wh : Int) ≠ (im : Int) - 1) ∧ Below w6.heap.size w6 wr) (fun i _ => rn - (intOf i).toNat)
    case atStart => exact ⟨0, by omega, rfl, Lib.hid (fun j hj => by omega), Below.refl _ _⟩
    case round =>
      obtain ⟨k, hk, rfl, hp, hbl⟩ := hrel
      have Jr := Lib.hid (J7.out.belowS hbl)
      obtain ⟨c0, c1, c2, c3, c4, c5⟩ := mod_cells Jr.out.X
      have c6 := Jr.out.X.lt
      have hwm : IntKind.i64.wrap ((im : Int) - 1) = (im : Int) - 1 := by rw [IntKind.wrap_i64]; omega
      by_cases hlt : k < rn
      · have hlt' : (k : Int) < rn := by omega
        obtain ⟨g, off, rfl, q1, e0, e1, e2⟩ := HR.out.at Jr.out.B hlt
        have hF := HF.out k hlt
        have HS := Lib.hid (fun (hh : (rl m k).kind = 0 ∨ (rl m k).kind = 1 ∨ (rl m k).kind = 4 → ((rl m k).wh : Int) ≠ (im : Int) - 1) (j : Nat) (hj : j < k + 1) => if h : j < k then hp.out j h else by rw [show j = k by omega]; exact hh)
        have hkd0 := Lib.hid (fun (hh : (rl m k).kind = 0 ∨ (rl m k).kind = 1 ∨ (rl m k).kind = 4) => show ((rl m k).kind : Int) = 0 ∨ ((rl m k).kind : Int) = 1 ∨ ((rl m k).kind : Int) = 4 by omega)
        change _ ∧ (rl m k).at_ < 65536 ∧ (rl m k).wh < 65536 at hF
        change wr.cell? _ = some (.int .u8 ((rl m k).kind : Int)) at e0
        change wr.cell? _ = some (.int .u16 ((rl m k).at_ : Int)) at e1
        change wr.cell? _ = some (.int .u16 ((rl m k).wh : Int)) at e2
        have hwr : IntKind.i64.wrap ((rl m k).wh : Int) = ((rl m k).wh : Int) := by rw [IntKind.wrap_i64]; omega
        clear hF hp
        generalize ((rl m k).kind : Int) = y0 at *
        generalize ((rl m k).at_ : Int) = y1 at *
        generalize ((rl m k).wh : Int) = y2 at *
        have Jb := Lib.hid (Jr.out.belowS (below_new wr (.cells #[.int .u8 y0, .int .u16 y1, .int .u16 y2] 38)))
        have hblb := hbl.alloc hbl.size (.cells #[.int .u8 y0, .int .u16 y1, .int .u16 y2] 38)
        by_cases hkd : y0 = 0 ∨ y0 = 1 ∨ y0 = 4
        case pos =>
          by_cases hwh : y2 = (im : Int) - 1
          case pos =>
            have hwh' : (im : Int) - 1 = y2 := hwh.symm
            clear HS hwh hkd0
            rcases hkd with rfl | rfl | rfl
            all_goals
              go_wp2_with (go_at_call 9; (with_reducible refine (AW.out _).mono ?_); rintro e w8 ⟨rfl, hb8⟩; have J8 := Lib.hid (Jb.out.belowS hb8); clear hb8)
              go_ret
              exact ⟨rfl, J8.out.B⟩
          case neg =>
            have hp2 := Lib.hid (HS.out (fun _ => hwh))
            have hwh2 : decide (y2 = (im : Int) - 1) = false := decide_eq_false hwh
            clear HS hkd0
            rcases hkd with rfl | rfl | rfl
            all_goals
              go_wp2_with fail
              go_roundw
              case rel => exact ⟨k + 1, by omega, by go_num, hp2, hblb⟩
              case measure => simp [intOf]; omega
        case neg =>
          have hp2 := Lib.hid (HS.out (fun hh => absurd (hkd0.out hh) hkd))
          have a0 : y0 ≠ 0 := fun e => hkd (Or.inl e)
          have a1 : y0 ≠ 1 := fun e => hkd (Or.inr (Or.inl e))
          have a4 : y0 ≠ 4 := fun e => hkd (Or.inr (Or.inr e))
          clear HS hkd0 hkd
          go_wp2_with fail
          go_roundw
          case rel => exact ⟨k + 1, by omega, by go_num, hp2, hblb⟩
          case measure => simp [intOf]; omega
      · obtain rfl : k = rn := by omega
        by_cases h0 : im = 0
        · have h0' : (im : Int) = 0 := by omega
          go_wp2_with (go_at_call 9; (with_reducible refine (AW.out _).mono ?_); rintro e w8 ⟨rfl, hb8⟩; have J8 := Lib.hid (Jr.out.belowS hb8); clear hb8)
          go_ret
          exact ⟨rfl, J8.out.B⟩
        · have h0' : (im : Int) ≠ 0 := by omega
          have CL2 := Lib.hid (CL.out (by omega) hp.out)
          clear CL hp
          go_upto_region 18 with (go_at_call 14; (with_reducible refine (CP.out _ Jr.out.B).mono ?_); rintro e w7 ⟨ea3, en3, ec3, ia3, im3, ic3, ca3, cn3, cc3, da3, dn3, dc3, ra3, rn3, rc3, rfl, hO, hb⟩; have OB := Lib.hid hO; have J7 := Lib.hid (Jr.out.belowS hb); have hsz7 := hb.size; have hwr7 := Jr.out.B.size; clear hb hO)
          have hi3 : im3 = im := by have := OB.out.own.reads.lens.2.1; have := HL.out.2.1; omega
          subst hi3
          have X8 := Whole.new w7 26 (mCs x ea3 en3 ec3 ia3 im3 ic3 ca3 cn3 cc3 da3 dn3 dc3 ra3 rn3 rc3)
          have O8 := OB.out.belowS (below_new w7 (.cells (mCs x ea3 en3 ec3 ia3 im3 ic3 ca3 cn3 cc3 da3 dn3 dc3 ra3 rn3 rc3) 26))
          have J8 := J7.out.belowS (below_new w7 (.cells (mCs x ea3 en3 ec3 ia3 im3 ic3 ca3 cn3 cc3 da3 dn3 dc3 ra3 rn3 rc3) 26))
          generalize w7.alloc (.cells (mCs x ea3 en3 ec3 ia3 im3 ic3 ca3 cn3 cc3 da3 dn3 dc3 ra3 rn3 rc3) 26) = W8 at *
          obtain ⟨a9, n9, c9, r9, T9⟩ := less_imps O8 X8 (by omega)
          have R9 := Lib.hid T9.lt
          have J9 := Lib.hid (J8.set_ (b := w7.heap.size) (i := 2) (by have := J7.out.sz; omega) (.slice a9 n9 c9))
          obtain ⟨e0, e1, e2, e3, e4, e5⟩ := mod_cells X8
          have e6 := X8.lt
          have f2 := X8.frozen 2
          clear c0 c1 c2 c3 c4 c5 c6 T9 O8 X8 J8 OB J7
          go_wp2_with (first | (go_at_call 12; (with_reducible refine (CL2.out _ _ _ _ _ _ _ _ _ _ _ _ _ _ _ _ R9.out).mono ?_); rintro e w9 ⟨rfl, hb⟩; have J10 := Lib.hid (J9.out.belowS hb); clear hb) | (go_at_call 9; (with_reducible refine (AW.out _).mono ?_); rintro e w10 ⟨rfl, hb⟩; have J11 := Lib.hid (J10.out.belowS hb); clear hb))
          go_ret
          exact ⟨rfl, J11.out.B⟩
  · have hcn' : ¬ (cn : Int) < 512 := by omega
    go_upto_region 8 with (go_at_call 14; (with_reducible refine (CP.out _ J2.out.B).mono ?_); rintro e w3 ⟨ea2, en2, ec2, ia2, im2, ic2, ca2, cn2, cc2, da2, dn2, dc2, ra2, rn2, rc2, rfl, hO, hb⟩; have OD := Lib.hid hO; have J3 := Lib.hid (J2.out.belowS hb); obtain ⟨_, _, k3, _, _⟩ := hO.own.reads.lens; obtain rfl : cn2 = cn := (by have := HL.out.2.2.1; omega); have hsz := hb.size; clear hb hO k3)
    have J4 := Lib.hid (J3.out.belowS (below_new w3 (.cells (mCs x ea2 en2 ec2 ia2 im2 ic2 ca2 cn2 cc2 da2 dn2 dc2 ra2 rn2 rc2) 26)))
    generalize w3.alloc (.cells (mCs x ea2 en2 ec2 ia2 im2 ic2 ca2 cn2 cc2 da2 dn2 dc2 ra2 rn2 rc2) 26) = W4 at *
    clear c0 c1 c2 c3 c4 c5 c6 OD J3 J2 hsz
    obtain ⟨c0, c1, c2, c3, c4, c5⟩ := mod_cells J4.out.X
    have c6 := J4.out.X.lt
    go_wp2_with fail
    clear c0 c1 c2 c3 c4 c5 c6
    go_loopw [5] (fun i wr => ∃ k : Nat, k ≤ rn ∧ i = .int .i64 (k : Int) ∧ Hid (∀ j, j < k → (rl m j).kind = 0 ∨ (rl m j).kind = 1 ∨ (rl m j).kind = 4 → ((rl m j).wh : Int) ≠ (im : Int) - 1) ∧ Below W4.heap.size W4 wr) (fun i _ => rn - (intOf i).toNat)
    case atStart => exact ⟨0, by omega, rfl, Lib.hid (fun j hj => by omega), Below.refl _ _⟩
    case round =>
      obtain ⟨k, hk, rfl, hp, hbl⟩ := hrel
      have Jr := Lib.hid (J4.out.belowS hbl)
      obtain ⟨c0, c1, c2, c3, c4, c5⟩ := mod_cells Jr.out.X
      have c6 := Jr.out.X.lt
      have hwm : IntKind.i64.wrap ((im : Int) - 1) = (im : Int) - 1 := by rw [IntKind.wrap_i64]; omega
      by_cases hlt : k < rn
      · have hlt' : (k : Int) < rn := by omega
        obtain ⟨g, off, rfl, q1, e0, e1, e2⟩ := HR.out.at Jr.out.B hlt
        have hF := HF.out k hlt
        have HS := Lib.hid (fun (hh : (rl m k).kind = 0 ∨ (rl m k).kind = 1 ∨ (rl m k).kind = 4 → ((rl m k).wh : Int) ≠ (im : Int) - 1) (j : Nat) (hj : j < k + 1) => if h : j < k then hp.out j h else by rw [show j = k by omega]; exact hh)
        have hkd0 := Lib.hid (fun (hh : (rl m k).kind = 0 ∨ (rl m k).kind = 1 ∨ (rl m k).kind = 4) => show ((rl m k).kind : Int) = 0 ∨ ((rl m k).kind : Int) = 1 ∨ ((rl m k).kind : Int) = 4 by omega)
        change _ ∧ (rl m k).at_ < 65536 ∧ (rl m k).wh < 65536 at hF
        change wr.cell? _ = some (.int .u8 ((rl m k).kind : Int)) at e0
        change wr.cell? _ = some (.int .u16 ((rl m k).at_ : Int)) at e1
        change wr.cell? _ = some (.int .u16 ((rl m k).wh : Int)) at e2
        have hwr : IntKind.i64.wrap ((rl m k).wh : Int) = ((rl m k).wh : Int) := by rw [IntKind.wrap_i64]; omega
        clear hF hp
        generalize ((rl m k).kind : Int) = y0 at *
        generalize ((rl m k).at_ : Int) = y1 at *
        generalize ((rl m k).wh : Int) = y2 at *
        have Jb := Lib.hid (Jr.out.belowS (below_new wr (.cells #[.int .u8 y0, .int .u16 y1, .int .u16 y2] 38)))
        have hblb := hbl.alloc hbl.size (.cells #[.int .u8 y0, .int .u16 y1, .int .u16 y2] 38)
        by_cases hkd : y0 = 0 ∨ y0 = 1 ∨ y0 = 4
        case pos =>
          by_cases hwh : y2 = (im : Int) - 1
          case pos =>
            have hwh' : (im : Int) - 1 = y2 := hwh.symm
            clear HS hwh hkd0
            rcases hkd with rfl | rfl | rfl
            all_goals
              go_wp2_with (go_at_call 9; (with_reducible refine (AW.out _).mono ?_); rintro e w8 ⟨rfl, hb8⟩; have J8 := Lib.hid (Jb.out.belowS hb8); clear hb8)
              go_ret
              exact ⟨rfl, J8.out.B⟩
          case neg =>
            have hp2 := Lib.hid (HS.out (fun _ => hwh))
            have hwh2 : decide (y2 = (im : Int) - 1) = false := decide_eq_false hwh
            clear HS hkd0
            rcases hkd with rfl | rfl | rfl
            all_goals
              go_wp2_with fail
              go_roundw
              case rel => exact ⟨k + 1, by omega, by go_num, hp2, hblb⟩
              case measure => simp [intOf]; omega
        case neg =>
          have hp2 := Lib.hid (HS.out (fun hh => absurd (hkd0.out hh) hkd))
          have a0 : y0 ≠ 0 := fun e => hkd (Or.inl e)
          have a1 : y0 ≠ 1 := fun e => hkd (Or.inr (Or.inl e))
          have a4 : y0 ≠ 4 := fun e => hkd (Or.inr (Or.inr e))
          clear HS hkd0 hkd
          go_wp2_with fail
          go_roundw
          case rel => exact ⟨k + 1, by omega, by go_num, hp2, hblb⟩
          case measure => simp [intOf]; omega
      · obtain rfl : k = rn := by omega
        by_cases h0 : im = 0
        · have h0' : (im : Int) = 0 := by omega
          go_wp2_with (go_at_call 9; (with_reducible refine (AW.out _).mono ?_); rintro e w8 ⟨rfl, hb8⟩; have J8 := Lib.hid (Jr.out.belowS hb8); clear hb8)
          go_ret
          exact ⟨rfl, J8.out.B⟩
        · have h0' : (im : Int) ≠ 0 := by omega
          have CL2 := Lib.hid (CL.out (by omega) hp.out)
          clear CL hp
          go_upto_region 18 with (go_at_call 14; (with_reducible refine (CP.out _ Jr.out.B).mono ?_); rintro e w7 ⟨ea3, en3, ec3, ia3, im3, ic3, ca3, cn3, cc3, da3, dn3, dc3, ra3, rn3, rc3, rfl, hO, hb⟩; have OB := Lib.hid hO; have J7 := Lib.hid (Jr.out.belowS hb); have hsz7 := hb.size; have hwr7 := Jr.out.B.size; clear hb hO)
          have hi3 : im3 = im := by have := OB.out.own.reads.lens.2.1; have := HL.out.2.1; omega
          subst hi3
          have X8 := Whole.new w7 26 (mCs x ea3 en3 ec3 ia3 im3 ic3 ca3 cn3 cc3 da3 dn3 dc3 ra3 rn3 rc3)
          have O8 := OB.out.belowS (below_new w7 (.cells (mCs x ea3 en3 ec3 ia3 im3 ic3 ca3 cn3 cc3 da3 dn3 dc3 ra3 rn3 rc3) 26))
          have J8 := J7.out.belowS (below_new w7 (.cells (mCs x ea3 en3 ec3 ia3 im3 ic3 ca3 cn3 cc3 da3 dn3 dc3 ra3 rn3 rc3) 26))
          generalize w7.alloc (.cells (mCs x ea3 en3 ec3 ia3 im3 ic3 ca3 cn3 cc3 da3 dn3 dc3 ra3 rn3 rc3) 26) = W8 at *
          obtain ⟨a9, n9, c9, r9, T9⟩ := less_imps O8 X8 (by omega)
          have R9 := Lib.hid T9.lt
          have J9 := Lib.hid (J8.set_ (b := w7.heap.size) (i := 2) (by have := J7.out.sz; omega) (.slice a9 n9 c9))
          obtain ⟨e0, e1, e2, e3, e4, e5⟩ := mod_cells X8
          have e6 := X8.lt
          have f2 := X8.frozen 2
          clear c0 c1 c2 c3 c4 c5 c6 T9 O8 X8 J8 OB J7
          go_wp2_with (first | (go_at_call 12; (with_reducible refine (CL2.out _ _ _ _ _ _ _ _ _ _ _ _ _ _ _ _ R9.out).mono ?_); rintro e w9 ⟨rfl, hb⟩; have J10 := Lib.hid (J9.out.belowS hb); clear hb) | (go_at_call 9; (with_reducible refine (AW.out _).mono ?_); rintro e w10 ⟨rfl, hb⟩; have J11 := Lib.hid (J10.out.belowS hb); clear hb))
          go_ret
          exact ⟨rfl, J11.out.B⟩
end
end Go.Proofs.Ytdfafllldanfiaa.WK
