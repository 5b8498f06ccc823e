/-
  An import more, and a word of data more: the walk of ValidMore. Nothing here is a statement of the seed.
-/
import Derived.Test.YtdfafllldanfiaaValLes
set_option linter.unusedSimpArgs false
set_option linter.unusedVariables false
namespace Go.Proofs.Ytdfafllldanfiaa.VR
open Go.RowKit WM NR OM OR VM
theorem fine_data {m : Md} (h : FineM m) : FineM { m with data := m.data ++ [7] } := ⟨h.code, fun x hx => by
  have hx : x ∈ m.data ++ [7] := hx
  rw [List.mem_append, List.mem_singleton] at hx
  rcases hx with hx | rfl
  · exact h.data x hx
  · omega, h.rels⟩
/-- the four ends of a module with an import more -/
theorem more_ends {m : Md} (h : VM.Good m) (s : List UInt8) : ∃ V1 V2 : Int, vld { m with imps := m.imps ++ [s] } = (V1, V2) ∧
    (m.imps.length = 16 ∧ V1 = 1 ∨ m.imps.length ≠ 16 ∧ 96 < s.length ∧ V1 = 1 ∨ m.imps.length ≠ 16 ∧ ¬ 96 < s.length ∧ V1 = 2 ∧ V2 = 9 + (m.imps.length : Int) ∨ m.imps.length ≠ 16 ∧ ¬ 96 < s.length ∧ s ∈ m.imps ∧ V1 = 3 ∧ V2 = 8 + (m.imps.length : Int) ∨ m.imps.length ≠ 16 ∧ ¬ 96 < s.length ∧ s ∉ m.imps ∧ V1 = 0) := by
  have e := vld_more h s
  by_cases h1 : m.imps.length = 16
  · rw [if_pos (Or.inl h1)] at e
    exact ⟨1, 0, e, Or.inl ⟨h1, rfl⟩⟩
  by_cases h2 : 96 < s.length
  · rw [if_pos (Or.inr h2)] at e
    exact ⟨1, 0, e, Or.inr (Or.inl ⟨h1, h2, rfl⟩)⟩
  rw [if_neg (by omega)] at e
  by_cases h3 : NM.chk s ≠ 0
  · rw [if_pos h3] at e
    exact ⟨_, _, e, Or.inr (Or.inr (Or.inl ⟨h1, h2, rfl, rfl⟩))⟩
  rw [if_neg h3] at e
  by_cases h4 : s ∈ m.imps
  · rw [if_pos h4] at e
    exact ⟨_, _, e, Or.inr (Or.inr (Or.inr (Or.inl ⟨h1, h2, h4, rfl, rfl⟩)))⟩
  · rw [if_neg h4] at e
    exact ⟨_, _, e, Or.inr (Or.inr (Or.inr (Or.inr ⟨h1, h2, h4, rfl⟩)))⟩
theorem mem_take_succ {l : List (List UInt8)} {k : Nat} {s : List UInt8} (hk : k < l.length) : decide (s ∈ l.take (k + 1)) = (decide (s ∈ l.take k) || decide (l.getD k [] = s)) := by
  have e : l.getD k [] = l[k] := by rw [List.getD_eq_getElem?_getD, List.getElem?_eq_getElem hk]; rfl
  rw [Bool.eq_iff_iff, Bool.or_eq_true, decide_eq_true_eq, decide_eq_true_eq, decide_eq_true_eq, e, List.take_add_one, List.getElem?_eq_getElem hk, List.mem_append]
  constructor
  · rintro (h | h)
    · exact Or.inl h
    · have h2 : s = l[k] := by simpa using h
      exact Or.inr h2.symm
  · rintro (h | h)
    · exact Or.inl h
    · exact Or.inr (by simpa using h.symm)
end Go.Proofs.Ytdfafllldanfiaa.VR
namespace Go.Proofs.Ytdfafllldanfiaa.WK
open Go.RowKit WM NR OM OR VM VR
set_option maxHeartbeats 4000000
set_option maxRecDepth 10000
section
variable {w : World} {ea : Option Addr} {en ec : Nat} {ia : Option Addr} {im ic : Nat} {ca : Option Addr} {cn cc : Nat} {da : Option Addr} {dn dc : Nat} {ra : Option Addr} {rn rc : Nat} {m : Md}
theorem ValidMore_walk (h : RdM (· < w.heap.size) w ea en ec ia im ic ca cn cc da dn dc ra rn rc m) (hf : FineM m) (s : List UInt8) (hs : s.length ≤ 140737488351232) :
    Calls Try.prog 6 #[mV (bs m.name) ea en ec ia im ic ca cn cc da dn dc ra rn rc, .string (bs s)] w fun e w' => e = .returned (.bool true) ∧ Below w.heap.size w w' := by
  have J0 := Lib.hid (BJ.new w (mCs (bs m.name) ea en ec ia im ic ca cn cc da dn dc ra rn rc))
  have S1 := Lib.hid (fun (u : World) (hb : Below w.heap.size w u) => size_any (h.go hb hb.size))
  have K1 := Lib.hid (fun (u : World) (hb : Below w.heap.size w u) => vcheck_any (h.go hb hb.size) hf)
  have AW := Lib.hid (fun (u : World) => awake_any u)
  by_cases z1 : szF en [im, cn, dn, rn] ≤ 2000
  case neg =>
    have z1' : (2000 : Int) < (szF en [im, cn, dn, rn] : Nat) := by omega
    clear z1 K1 h hf
    generalize bs m.name = x at *
    generalize ((szF en [im, cn, dn, rn] : Nat) : Int) = s1 at *
    go_enter Try.func6, Try.ntmps6
    go_upto_region 1 with fail
    generalize w.alloc (.cells (mCs x ea en ec ia im ic ca cn cc da dn dc ra rn rc) 26) = W0 at *
    obtain ⟨c0, c1, c2, c3, c4, c5⟩ := mod_cells J0.out.X
    have c6 := J0.out.X.lt
    go_wp2_with (first | (go_at_call 8; (with_reducible refine (S1.out _ J0.out.B).mono ?_); rintro e w1 ⟨rfl, hb⟩; have J1 := Lib.hid (J0.out.belowS hb); obtain ⟨d0, d1, d2, d3, d4, d5⟩ := mod_cells J1.out.X; have d6 := J1.out.X.lt; clear hb) | (go_at_call 9; (with_reducible refine (AW.out _).mono ?_); rintro e w2 ⟨rfl, hb⟩; have J2 := Lib.hid (J1.out.belowS hb); clear hb))
    go_ret
    exact ⟨rfl, J2.out.B⟩
  have z1' : ((szF en [im, cn, dn, rn] : Nat) : Int) ≤ 2000 := by omega
  have hz5 := szF_five z1
  clear z1
  by_cases hk : chkV m = 0
  case neg =>
    have hk2 : (chkV m != 0) = true := by simpa using hk
    clear h hf hz5
    generalize chkV m = q at *
    generalize bs m.name = x at *
    generalize ((szF en [im, cn, dn, rn] : Nat) : Int) = s1 at *
    go_enter Try.func6, Try.ntmps6
    go_upto_region 1 with fail
    generalize w.alloc (.cells (mCs x ea en ec ia im ic ca cn cc da dn dc ra rn rc) 26) = W0 at *
    obtain ⟨c0, c1, c2, c3, c4, c5⟩ := mod_cells J0.out.X
    have c6 := J0.out.X.lt
    go_wp2_with (first | (go_at_call 8; (with_reducible refine (S1.out _ J0.out.B).mono ?_); rintro e w1 ⟨rfl, hb⟩; have J1 := Lib.hid (J0.out.belowS hb); obtain ⟨d0, d1, d2, d3, d4, d5⟩ := mod_cells J1.out.X; have d6 := J1.out.X.lt; clear hb) | (go_at_call 12; (with_reducible refine (K1.out _ J1.out.B).mono ?_); rintro e w2 ⟨rfl, hb⟩; have J2 := Lib.hid (J1.out.belowS hb); clear hb) | (go_at_call 9; (with_reducible refine (AW.out _).mono ?_); rintro e w3 ⟨rfl, hb⟩; have J3 := Lib.hid (J2.out.belowS hb); clear hb))
    go_ret
    exact ⟨rfl, J3.out.B⟩
  have hg := chk_good hk
  rw [hk] at K1
  clear hk
  obtain ⟨l1, l2, l3, l4, l5⟩ := h.lens
  obtain ⟨⟨y1, y2, y3, y4, y5⟩, y6, y7, y8, y9⟩ := chk_ok hg.ck
  have CP := Lib.hid (fun (u : World) (hb : Below w.heap.size w u) => refCopyO_any (h.go hb hb.size) ⟨by omega, by omega, by omega, by omega, by omega⟩)
  obtain ⟨V1, V2, hV, hends⟩ := more_ends hg s
  rw [l2] at hends
  have CM : Hid (∀ (u : World) (ea : Option Addr) (en ec : Nat) (ia : Option Addr) (im ic : Nat) (ca : Option Addr) (cn cc : Nat) (da : Option Addr) (dn dc : Nat) (ra : Option Addr) (rn rc : Nat), RdM (· < u.heap.size) u ea en ec ia im ic ca cn cc da dn dc ra rn rc { m with imps := m.imps ++ [s] } → Calls Try.prog 15 #[mV (bs m.name) ea en ec ia im ic ca cn cc da dn dc ra rn rc] u fun e w' => e = .returned (.tuple #[.int .u8 V1, .int .i64 V2]) ∧ Below u.heap.size u w') := Lib.hid fun u _ _ _ _ _ _ _ _ _ _ _ _ _ _ _ hR => by
    have := module_any hR (show FineM { m with imps := m.imps ++ [s] } from ⟨hf.code, hf.data, hf.rels⟩)
    rw [hV] at this
    exact this
  obtain ⟨q, hq⟩ : ∃ q, q = chkV { m with data := m.data ++ [7] } := ⟨_, rfl⟩
  have CD : Hid (∀ (u : World) (ea : Option Addr) (en ec : Nat) (ia : Option Addr) (im ic : Nat) (ca : Option Addr) (cn cc : Nat) (da : Option Addr) (dn dc : Nat) (ra : Option Addr) (rn rc : Nat), RdM (· < u.heap.size) u ea en ec ia im ic ca cn cc da dn dc ra rn rc { m with data := m.data ++ [7] } → Calls Try.prog 12 #[mV (bs m.name) ea en ec ia im ic ca cn cc da dn dc ra rn rc] u fun e w' => e = .returned (.int .i64 q) ∧ Below u.heap.size u w') := Lib.hid fun u _ _ _ _ _ _ _ _ _ _ _ _ _ _ _ hR => by
    have := vcheck_any hR (fine_data hf)
    rw [← hq] at this
    exact this
  have hq2 : q = 0 ↔ dn < 128 := by
    rw [hq, ← l4, ← good_data hg 7]
    unfold chkV
    split <;> simp_all
  have HQ := Lib.hid hq2
  have HE := Lib.hid hends
  have HI := Lib.hid h.im
  have him : (im : Int) ≤ 16 := by omega
  have hdn : (dn : Int) ≤ 128 := by omega
  have hic : (im : Int) ≤ ic := by have := (reads_len h.im).2.1; omega
  have HL := Lib.hid (And.intro l1 (And.intro l2 (And.intro l3 (And.intro l4 l5))))
  have HS := Lib.hid hs
  clear h hf hg l1 l2 l3 l4 l5 y1 y2 y3 y4 y5 y6 y7 y8 y9 hz5 hV hends hq hq2 hs
  generalize bs m.name = x at *
  generalize ((szF en [im, cn, dn, rn] : Nat) : Int) = s1 at *
  go_enter Try.func6, Try.ntmps6
  go_upto_region 1 with fail
  generalize w.alloc (.cells (mCs x ea en ec ia im ic ca cn cc da dn dc ra rn rc) 26) = W0 at *
  obtain ⟨c0, c1, c2, c3, c4, c5⟩ := mod_cells J0.out.X
  have c6 := J0.out.X.lt
  go_upto_region 3 with (first | (go_at_call 8; (with_reducible refine (S1.out _ J0.out.B).mono ?_); rintro e w1 ⟨rfl, hb⟩; have J1 := Lib.hid (J0.out.belowS hb); obtain ⟨d0, d1, d2, d3, d4, d5⟩ := mod_cells J1.out.X; have d6 := J1.out.X.lt; clear hb) | (go_at_call 12; (with_reducible refine (K1.out _ J1.out.B).mono ?_); rintro e w2 ⟨rfl, hb⟩; have J2 := Lib.hid (J1.out.belowS hb); clear hb))
  clear c0 c1 c2 c3 c4 c5 c6 d0 d1 d2 d3 d4 d5 d6 J0 J1 S1 K1
  obtain ⟨c0, c1, c2, c3, c4, c5⟩ := mod_cells J2.out.X
  have c6 := J2.out.X.lt
  go_upto_region 4 with (go_at_call 14; (with_reducible refine (CP.out _ J2.out.B).mono ?_); rintro e w3 ⟨ea2, en2, ec2, ia2, im2, ic2, ca2, cn2, cc2, da2, dn2, dc2, ra2, rn2, rc2, rfl, hO, hb⟩; have OD := Lib.hid hO; have J3 := Lib.hid (J2.out.belowS hb); obtain ⟨_, k2, _, _, _⟩ := hO.own.reads.lens; obtain rfl : im2 = im := (by have := HL.out.2.1; omega); have hsz := hb.size; clear hb hO k2)
  have X4 := Whole.new w3 26 (mCs x ea2 en2 ec2 ia2 im2 ic2 ca2 cn2 cc2 da2 dn2 dc2 ra2 rn2 rc2)
  have b4 := below_new w3 (.cells (mCs x ea2 en2 ec2 ia2 im2 ic2 ca2 cn2 cc2 da2 dn2 dc2 ra2 rn2 rc2) 26)
  have O4 := OD.out.belowS b4
  have J4 := J3.out.belowS b4
  have s4 := b4.size
  clear b4
  generalize w3.alloc (.cells (mCs x ea2 en2 ec2 ia2 im2 ic2 ca2 cn2 cc2 da2 dn2 dc2 ra2 rn2 rc2) 26) = W4 at *
  have b5 := below_new W4 (.cells #[.string (bs s)] 9)
  obtain ⟨a5, c5', u5, hr5, O5, hg5, hB5⟩ := app_im (ty := 22) (O4.belowS b5) (by have := b5.size; omega) ⟨W4.heap.size, 0, none⟩ s (new_cells (xs := strs [s])) (by omega)
  have X5 := box_turn (X4.belowS b5) hg5 (fun g hg => (hB5 g hg).2) (by decide)
  have J5 := (J4.belowS b5).row hg5 hB5 (by decide) (by have := J2.out.B.size; omega)
  have R5 := Lib.hid (O5.box X5 2 (.slice a5 (im2 + 1) c5')).lt
  have J6 := Lib.hid (J5.set_ (b := w3.heap.size) (i := 2) (by have := J3.out.sz; omega) (.slice a5 (im2 + 1) c5'))
  obtain ⟨d0, d1, d2, d3, d4, d5⟩ := mod_cells X4
  have d6 := X4.lt
  obtain ⟨e0, e1, e2, e3, e4, e5⟩ := mod_cells X5
  have e6 := X5.lt
  have f2 := X5.frozen 2
  clear c0 c1 c2 c3 c4 c5 c6 X4 O4 J4 b5 O5 X5 J5 OD J3 hg5 hB5
  go_upto_region 6 with (first | (at_builtin; refine Lib.wpList_append_run _ rfl _ _ _ _ rfl _ _ rfl rfl _ _ hr5 ?_) | (go_at_call 15; (with_reducible refine (CM.out _ _ _ _ _ _ _ _ _ _ _ _ _ _ _ _ R5.out).mono ?_); rintro e w6 ⟨rfl, hb⟩; have J7 := Lib.hid (J6.out.belowS hb); clear hb))
  clear d0 d1 d2 d3 d4 d5 d6 e0 e1 e2 e3 e4 e5 e6 f2 J6 R5 J2 hr5 hsz s4 CM
  go_wp2_with fail
  go_loopw [8, 9] (fun t i wr => ∃ k : Nat, k ≤ im2 ∧ i = .int .i64 (k : Int) ∧ (∃ b : Bool, t = .bool b ∧ Hid (b = decide (s ∈ m.imps.take k))) ∧ Below w6.heap.size w6 wr) (fun _ i _ => im2 - (intOf i).toNat)
  case atStart => exact ⟨0, by omega, rfl, ⟨false, rfl, Lib.hid (by simp)⟩, Below.refl _ _⟩
  case round =>
    obtain ⟨k, hk, rfl, ⟨b, rfl, hbt⟩, hbl⟩ := hrel
    have Jr := Lib.hid (J7.out.belowS hbl)
    obtain ⟨c0, c1, c2, c3, c4, c5⟩ := mod_cells Jr.out.X
    have c6 := Jr.out.X.lt
    by_cases hlt : k < im2
    · have hlt' : (k : Int) < im2 := by omega
      have kl : k < m.imps.length := by rw [HL.out.2.1]; exact hlt
      obtain ⟨g, off, rfl, q1, e1⟩ := reads_at HI.out Jr.out.B hlt
      rw [strs_at kl] at e1
      cases b
      case true =>
        have hb2 := Lib.hid (show true = decide (s ∈ m.imps.take (k + 1)) by rw [mem_take_succ kl, ← hbt.out]; rfl)
        clear hbt kl
        go_wp2_with fail
        go_roundw
        case rel => exact ⟨k + 1, by omega, by go_num, ⟨true, rfl, hb2⟩, hbl⟩
        case measure => simp [intOf]; omega
      case false =>
        by_cases e : m.imps.getD k [] = s
        · have hb2 := Lib.hid (show true = decide (s ∈ m.imps.take (k + 1)) by rw [mem_take_succ kl, ← hbt.out, decide_eq_true e]; rfl)
          rw [e] at e1
          have exx : ((bs s).toList == (bs s).toList) = true := by simp
          clear hbt kl e
          go_wp2_with fail
          go_roundw
          case rel => exact ⟨k + 1, by omega, by go_num, ⟨true, by first | rfl | simp, hb2⟩, hbl⟩
          case measure => simp [intOf]; omega
        · have hb2 := Lib.hid (show false = decide (s ∈ m.imps.take (k + 1)) by rw [mem_take_succ kl, ← hbt.out, decide_eq_false e]; rfl)
          have exy : ((bs (m.imps.getD k [])).toList == (bs s).toList) = false := by rw [bs_toList, bs_toList]; simpa using e
          clear hbt kl e
          generalize bs (m.imps.getD k []) = y at *
          go_wp2_with fail
          go_roundw
          case rel => exact ⟨k + 1, by omega, by go_num, ⟨false, by first | rfl | simp [exy], hb2⟩, hbl⟩
          case measure => simp [intOf]; omega
    · obtain rfl : k = im2 := by omega
      have hth : b = decide (s ∈ m.imps) := by have := hbt.out; rwa [List.take_of_length_le (by rw [HL.out.2.1]; omega)] at this
      have hln : ((bs s).size : Int) = (s.length : Int) := by rw [bs_size]
      have hbig := HS.out
      have hwa : IntKind.i64.wrap (9 + (k : Int)) = 9 + (k : Int) := by rw [IntKind.wrap_i64]; omega
      have hwb : IntKind.i64.wrap (8 + (k : Int)) = 8 + (k : Int) := by rw [IntKind.wrap_i64]; omega
      rcases HE.out with ⟨g1, rfl⟩ | ⟨g1, g2, rfl⟩ | ⟨g1, g2, rfl, rfl⟩ | ⟨g1, g2, g3, rfl, rfl⟩ | ⟨g1, g2, g3, rfl⟩
      · have g1' : (k : Int) = 16 := by omega
        clear hth hln hbig HE hbt
        generalize bs s = y at *
        go_wp2_with (go_at_call 9; (with_reducible refine (AW.out _).mono ?_); rintro e w8 ⟨rfl, hb8⟩; have J8 := Lib.hid (Jr.out.belowS hb8); clear hb8)
        go_ret
        exact ⟨rfl, J8.out.B⟩
      · have g1' : (k : Int) ≠ 16 := by omega
        have g2' : (96 : Int) < ((bs s).size : Int) := by omega
        clear hth hln hbig HE hbt g1 g2
        have hk16 : ((k : Int) == 16) = false := by simpa using g1'
        generalize bs s = y at *
        go_wp2_with (go_at_call 9; (with_reducible refine (AW.out _).mono ?_); rintro e w8 ⟨rfl, hb8⟩; have J8 := Lib.hid (Jr.out.belowS hb8); clear hb8)
        go_ret
        exact ⟨rfl, J8.out.B⟩
      · have g1' : (k : Int) ≠ 16 := by omega
        have g2' : ¬ (96 : Int) < ((bs s).size : Int) := by omega
        have g2'' : ((bs s).size : Int) ≤ 96 := by omega
        clear hth hln hbig HE hbt g1 g2
        have hk16 : ((k : Int) == 16) = false := by simpa using g1'
        generalize bs s = y at *
        go_wp2_with (go_at_call 9; (with_reducible refine (AW.out _).mono ?_); rintro e w8 ⟨rfl, hb8⟩; have J8 := Lib.hid (Jr.out.belowS hb8); clear hb8)
        go_ret
        exact ⟨rfl, J8.out.B⟩
      · have g1' : (k : Int) ≠ 16 := by omega
        have g2' : ¬ (96 : Int) < ((bs s).size : Int) := by omega
        have g2'' : ((bs s).size : Int) ≤ 96 := by omega
        rw [decide_eq_true g3] at hth
        subst hth
        clear hln hbig HE hbt g1 g2 g3
        have hk16 : ((k : Int) == 16) = false := by simpa using g1'
        generalize bs s = y at *
        go_wp2_with (go_at_call 9; (with_reducible refine (AW.out _).mono ?_); rintro e w8 ⟨rfl, hb8⟩; have J8 := Lib.hid (Jr.out.belowS hb8); clear hb8)
        go_ret
        exact ⟨rfl, J8.out.B⟩
      · have g1' : (k : Int) ≠ 16 := by omega
        have g2' : ¬ (96 : Int) < ((bs s).size : Int) := by omega
        have g2'' : ((bs s).size : Int) ≤ 96 := by omega
        rw [decide_eq_false g3] at hth
        subst hth
        clear hln hbig HE hbt g1 g2 g3
        have hk16 : ((k : Int) == 16) = false := by simpa using g1'
        generalize bs s = y at *
        go_upto_region 18 with (go_at_call 14; (with_reducible refine (CP.out _ Jr.out.B).mono ?_); rintro e w7 ⟨ea3, en3, ec3, ia3, im3, ic3, ca3, cn3, cc3, da3, dn3, dc3, ra3, rn3, rc3, rfl, hO, hb⟩; have OB := Lib.hid hO; have J8 := Lib.hid (Jr.out.belowS hb); obtain ⟨_, _, _, k4, _⟩ := hO.own.reads.lens; obtain rfl : dn3 = dn := (by have := HL.out.2.2.2.1; omega); have hsz := hb.size; clear hb hO k4)
        have X9 := Whole.new w7 26 (mCs x ea3 en3 ec3 ia3 im3 ic3 ca3 cn3 cc3 da3 dn3 dc3 ra3 rn3 rc3)
        have b9 := below_new w7 (.cells (mCs x ea3 en3 ec3 ia3 im3 ic3 ca3 cn3 cc3 da3 dn3 dc3 ra3 rn3 rc3) 26)
        have O9 := OB.out.belowS b9
        have J9 := J8.out.belowS b9
        have s9 := b9.size
        clear b9
        generalize w7.alloc (.cells (mCs x ea3 en3 ec3 ia3 im3 ic3 ca3 cn3 cc3 da3 dn3 dc3 ra3 rn3 rc3) 26) = W9 at *
        have b10 := below_new W9 (.cells #[.int .u32 7] 39)
        obtain ⟨a10, c10', u10, hr10, O10, hg10, hB10⟩ := app_dt (ty := 23) (O9.belowS b10) (by have := b10.size; omega) ⟨W9.heap.size, 0, none⟩ 7 (new_cells (xs := u32s [7])) (by omega)
        have X10 := box_turn (X9.belowS b10) hg10 (fun g hg => (hB10 g hg).2) (by decide)
        have J10 := (J9.belowS b10).row hg10 hB10 (by decide) (by have := Jr.out.B.size; omega)
        have O11 := Lib.hid (O10.box X10 4 (.slice a10 (dn3 + 1) c10'))
        have X11 : Hid (Whole (u10.setCell ⟨w7.heap.size, 4, none⟩ (.slice a10 (dn3 + 1) c10')) w7.heap.size 26 (mCs x ea3 en3 ec3 ia3 im3 ic3 ca3 cn3 cc3 a10 (dn3 + 1) c10' ra3 rn3 rc3)) := Lib.hid (X10.set_ 4 (.slice a10 (dn3 + 1) c10'))
        have J11 := Lib.hid (J10.set_ (b := w7.heap.size) (i := 4) (by have := J8.out.sz; omega) (.slice a10 (dn3 + 1) c10'))
        obtain ⟨d0, d1, d2, d3, d4, d5⟩ := mod_cells X9
        have d6 := X9.lt
        obtain ⟨e0, e1, e2, e3, e4, e5⟩ := mod_cells X10
        have e6 := X10.lt
        have f4 := X10.frozen 4
        clear c0 c1 c2 c3 c4 c5 c6 X9 O9 J9 b10 O10 X10 J10 OB J8 hg10 hB10
        go_upto_region 19 with (at_builtin; refine Lib.wpList_append_run _ rfl _ _ _ _ rfl _ _ rfl rfl _ _ hr10 ?_)
        generalize u10.setCell ⟨w7.heap.size, 4, none⟩ (.slice a10 (dn3 + 1) c10') = U at *
        clear d0 d1 d2 d3 d4 d5 d6 e0 e1 e2 e3 e4 e5 e6 f4 hr10 s9
        have bd : Below U.heap.size U U.drew := (Below.refl _ _).drew
        have JJ := Lib.hid (J11.out.belowS bd)
        have XX := Lib.hid (X11.out.belowS bd)
        have R12 := Lib.hid (O11.out.belowS bd).lt
        have KK := And.intro (mod_cells JJ.out.X) (mod_cells XX.out)
        clear J11 X11 O11
        by_cases hdl : dn3 < 128
        · have hq0 : q = 0 := HQ.out.2 hdl
          subst hq0
          have hdl' : (dn3 : Int) < 128 := by omega
          go_region_held3 (fun u => MC w.heap.size x ea en ec ia k ic ca cn cc da dn3 dc ra rn rc u ∧ MC w7.heap.size x ea3 en3 ec3 ia3 im3 ic3 ca3 cn3 cc3 a10 (dn3 + 1) c10' ra3 rn3 rc3 u)
            (first | with_reducible exact KK)
            (first | (go_at_call 12; (with_reducible refine (CD.out _ _ _ _ _ _ _ _ _ _ _ _ _ _ _ _ R12.out).mono ?_); rintro e w9 ⟨rfl, hb⟩; have JJ := Lib.hid (JJ.out.belowS hb); have XX := Lib.hid (XX.out.belowS hb); have KK := And.intro (mod_cells JJ.out.X) (mod_cells XX.out); clear hb) | (go_at_call 9; (with_reducible refine (AW.out _).mono ?_); rintro e w10 ⟨rfl, hb⟩; have JJ := Lib.hid (JJ.out.belowS hb); have XX := Lib.hid (XX.out.belowS hb); have KK := And.intro (mod_cells JJ.out.X) (mod_cells XX.out); clear hb))
          all_goals
            rename_i hHeld
            clear hHeld
            go_wp2_with fail
            go_ret
            exact ⟨rfl, JJ.out.B⟩
        · have hq0 : (q == 0) = false := by
            have : ¬ q = 0 := fun e => hdl (HQ.out.1 e)
            simpa using this
          have hdl' : ¬ (dn3 : Int) < 128 := by omega
          go_region_held3 (fun u => MC w.heap.size x ea en ec ia k ic ca cn cc da dn3 dc ra rn rc u ∧ MC w7.heap.size x ea3 en3 ec3 ia3 im3 ic3 ca3 cn3 cc3 a10 (dn3 + 1) c10' ra3 rn3 rc3 u)
            (first | with_reducible exact KK)
            (first | (go_at_call 12; (with_reducible refine (CD.out _ _ _ _ _ _ _ _ _ _ _ _ _ _ _ _ R12.out).mono ?_); rintro e w9 ⟨rfl, hb⟩; have JJ := Lib.hid (JJ.out.belowS hb); have XX := Lib.hid (XX.out.belowS hb); have KK := And.intro (mod_cells JJ.out.X) (mod_cells XX.out); clear hb) | (go_at_call 9; (with_reducible refine (AW.out _).mono ?_); rintro e w10 ⟨rfl, hb⟩; have JJ := Lib.hid (JJ.out.belowS hb); have XX := Lib.hid (XX.out.belowS hb); have KK := And.intro (mod_cells JJ.out.X) (mod_cells XX.out); clear hb))
          all_goals
            rename_i hHeld
            clear hHeld
            go_wp2_with fail
            go_ret
            exact ⟨rfl, JJ.out.B⟩
end
end Go.Proofs.Ytdfafllldanfiaa.WK
