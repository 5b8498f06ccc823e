/-
  The reference of layer 18: Open, its loop. Nothing here is a statement of the seed.
-/
import Derived.Test.YtigalcmhongleaaGtRef6
set_option linter.unusedSimpArgs false
set_option linter.unusedVariables false
namespace Go.Proofs.Ytigalcmhongleaa.GF
open Go.RowKit WM NR OM OR GA
set_option maxHeartbeats 4000000
set_option maxRecDepth 10000
section
variable {w : World} {f : Tb}
section
variable {X : ByteArray} {o k : Int}
theorem open_fit {c : Int} (hc : (c != 0) = false) (h1 : (o == 0) = false) (h2 : (k == 0) = false) (CK : ∀ u, Calls Try.prog 32 #[.string X] u fun e u2 => e = .returned (.int .i64 c) ∧ Below u.heap.size u u2) {P : Int} (hp : decide (P ≥ 0) = false) (CP : ∀ u, Calls Try.prog 30 #[tV f, .string X] u fun e u2 => e = .returned (.int .i64 P) ∧ Below u.heap.size u u2) {B : Bool} (hb : B = false) (CO : ∀ u, Calls Try.prog 31 #[tV f, .int .u16 o] u fun e u2 => e = .returned (.bool B) ∧ Below u.heap.size u u2) {nm : List UInt8} (hX : X = bs nm) {T : Tb} {G E : Int} (hyes : ∀ j, j < 8 → (f j).ow = 0 → (∀ i, i < j → (f i).ow ≠ 0) → T = setT f j ⟨nm, o, k⟩ ∧ G = (j : Int) ∧ E = 0) (hno : (∀ j, j < 8 → (f j).ow ≠ 0) → T = f ∧ G = 0 ∧ E = 28) : Calls Try.prog 22 #[tV f, NV X o k] w fun e u => e = .returned (.tuple #[tV T, .int .i64 G, .int .i64 E]) ∧ Below w.heap.size w u := by
  have J0 := Lib.hid (QO.new w f #[.string X, .int .u16 o, .int .u32 k])
  have CK := Lib.hid CK
  have CP := Lib.hid CP
  have CO := Lib.hid CO
  have HXN := Lib.hid hX
  have HYES := Lib.hid hyes
  have HNO := Lib.hid hno
  clear hX hyes hno
  have KN : Hid (∀ u, QO w f #[.string X, .int .u16 o, .int .u32 k] u → u.cell? ⟨w.heap.size + 1, 0, none⟩ = some (.string X) ∧ u.cell? ⟨w.heap.size + 1, 1, none⟩ = some (.int .u16 o) ∧ u.cell? ⟨w.heap.size + 1, 2, none⟩ = some (.int .u32 k) ∧ w.heap.size + 1 < u.heap.size) := Lib.hid (fun u h => ⟨h.N.cell 0, h.N.cell 1, h.N.cell 2, h.N.lt⟩)
  go_enter Try.func22, Try.ntmps22
  go_upto_region 1 with fail
  generalize ((w.alloc (.cells (tC f) 32)).alloc (.cells #[.string X, .int .u16 o, .int .u32 k] 29)).alloc (.cells tZ 32) = W at *
  obtain ⟨n0, n1, n2, n6⟩ := KN.out _ J0.out
  subst hb
  go_upto_region 3 with (first | (go_at_call 32; (with_reducible refine (CK.out _).mono ?_); rintro e w1 ⟨rfl, hB⟩; have J1 := Lib.hid (J0.out.belowS hB); clear hB))
  clear n0 n1 n2 n6
  obtain ⟨n0, n1, n2, n6⟩ := KN.out _ J1.out
  go_upto_region 5 with fail
  go_upto_region 7 with (first | (refine wl_T rfl (.tmp 2) rfl rfl J1.out.X ?_) | (go_at_call 30; (with_reducible refine (CP.out _).mono ?_); rintro e w2 ⟨rfl, hB⟩; have J2 := Lib.hid (J1.out.belowS hB); clear hB; clear n0 n1 n2 n6; obtain ⟨n0, n1, n2, n6⟩ := KN.out _ J2.out) | (refine wl_Tg rfl (.tmp 2) rfl rfl J2.out.X ?_) | (go_at_call 31; (with_reducible refine (CO.out _).mono ?_); rintro e w3 ⟨rfl, hB⟩; have J3 := Lib.hid (J2.out.belowS hB); clear hB))
  clear n0 n1 n2 n6 CK CP CO J0 J1 J2 w1 w2
  obtain ⟨n0, n1, n2, n6⟩ := KN.out _ J3.out
  have z6 := J3.out.X.lt
  go_wp2_with fail
  go_loopw [7] (fun i wr => ∃ j : Nat, j ≤ 8 ∧ i = .int .i64 (j : Int) ∧ Hid (∀ i, i < j → (f i).ow ≠ 0) ∧ wr = w3) (fun i _ => 8 - (intOf i).toNat)
  case atStart => exact ⟨0, by omega, rfl, Lib.hid (fun i hi => by omega), rfl⟩
  case round =>
    obtain ⟨j, hj, rfl, hp, rfl⟩ := hrel
    by_cases hlt : j < 8
    · have hlt' : (j : Int) < 8 := by omega
      obtain ⟨y0, y1, y2⟩ := box_at J3.out.X hlt
      have HT := Lib.hid (fun hh => HYES.out j hlt hh hp.out)
      have HN := Lib.hid (fun hh : (f j).ow ≠ 0 => (fun i (hi : i < j + 1) => if h : i < j then hp.out i h else by rw [show i = j by omega]; exact hh))
      have xf0 := J3.out.X.frozen (j * 3)
      have xf1 := J3.out.X.frozen (j * 3 + 1)
      have xf2 := J3.out.X.frozen (j * 3 + 2)
      have HX4 := Lib.hid (box_set J3.out.X hlt ⟨nm, o, k⟩)
      simp only at HX4
      rw [← HXN.out] at HX4
      have far : ∀ q (t : TypeId) (cs : Array Value), w.heap.size ≠ q → Whole wr q t cs → Whole (((wr.setCell ⟨w.heap.size, j * 3, none⟩ (.string X)).setCell ⟨w.heap.size, j * 3 + 1, none⟩ (.int .u16 o)).setCell ⟨w.heap.size, j * 3 + 2, none⟩ (.int .u32 k)) q t cs := fun q t cs hq hw => ((hw.far (p := ⟨w.heap.size, j * 3, none⟩) (Ne.symm hq) _).far (p := ⟨w.heap.size, j * 3 + 1, none⟩) (Ne.symm hq) _).far (p := ⟨w.heap.size, j * 3 + 2, none⟩) (Ne.symm hq) _
      have HY4 := Lib.hid (far _ _ _ (by omega) J3.out.Y)
      have HB4 := Lib.hid (((J3.out.B.setCell (p := ⟨w.heap.size, j * 3, none⟩) (Nat.le_refl _) (.string X)).setCell (p := ⟨w.heap.size, j * 3 + 1, none⟩) (Nat.le_refl _) (.int .u16 o)).setCell (p := ⟨w.heap.size, j * 3 + 2, none⟩) (Nat.le_refl _) (.int .u32 k))
      clear far hp
      obtain ⟨q, hq⟩ : ∃ q, q = (f j).ow := ⟨_, rfl⟩
      rw [← hq] at HT HN y1
      clear hq
      by_cases b1 : q = 0
      · have hT := Lib.hid (HT.out b1)
        subst b1
        clear HT HN HYES HNO J3 KN
        have HS4 := Lib.hid (And.intro HX4.out (And.intro HY4.out HB4.out))
        go_upto_region 12 with fail
        clear n0 n1 n2 n6 y0 y1 y2 xf0 xf1 xf2 z6
        generalize ((wr.setCell ⟨w.heap.size, j * 3, none⟩ (.string X)).setCell ⟨w.heap.size, j * 3 + 1, none⟩ (.int .u16 o)).setCell ⟨w.heap.size, j * 3 + 2, none⟩ (.int .u32 k) = W4 at *
        obtain ⟨e1, e2, e3⟩ := hT.out
        rw [← e1] at HX4
        have HYF := Lib.hid (putT_whole HY4.out rfl T)
        have HBF := Lib.hid (putT_below HB4.out HB4.out.size (show w.heap.size ≤ w.heap.size + 1 + 1 by omega) T)
        clear HS4 hT e1 hlt'
        go_wp2_with (first | (refine wl_T rfl (.tmp 2) rfl rfl HX4.out ?_) | (refine wst_T rfl (.tmp 4) (.tmp 51) rfl rfl rfl rfl HY4.out rfl ?_; generalize putT W4 (w.heap.size + 1 + 1) T = W5 at *))
        refine bodyPost_ret (v := .tuple #[tV T, .int .i64 (j : Int), .int .i64 0]) (res3 Try.results22 rfl rfl rfl HYF.out) rfl ⟨?_, HBF.out⟩
        rw [e2, e3]
      · have b1' : (q == 0) = false := by simpa using b1
        have hp2 := Lib.hid (HN.out b1)
        clear HT HN HX4 HY4 HB4 xf0 xf1 xf2
        go_wp2_with fail
        go_roundw
        case rel => exact ⟨j + 1, by omega, by go_num, hp2, by trivial⟩
        case measure => simp [intOf]; omega
    · obtain rfl : j = 8 := by omega
      obtain ⟨e1, e2, e3⟩ := HNO.out hp.out
      subst e1 e2 e3
      have HY4 := Lib.hid J3.out.Y
      have HX4 := Lib.hid J3.out.X
      obtain ⟨hY, hBB⟩ := open_no J3.out
      have HYF := Lib.hid hY
      have HBF := Lib.hid hBB
      clear hp HYES HNO J3 KN hY hBB n0 n1 n2 n6
      go_wp2_with (first | (refine wl_T rfl (.tmp 2) rfl rfl HX4.out ?_) | (refine wst_T rfl (.tmp 4) (.tmp 53) rfl rfl rfl rfl HY4.out rfl ?_; generalize putT wr (w.heap.size + 1 + 1) T = W5 at *))
      exact bodyPost_ret (v := .tuple #[tV T, .int .i64 0, .int .i64 28]) (res3 Try.results22 rfl rfl rfl HYF.out) rfl ⟨rfl, HBF.out⟩
end
end
end Go.Proofs.Ytigalcmhongleaa.GF
