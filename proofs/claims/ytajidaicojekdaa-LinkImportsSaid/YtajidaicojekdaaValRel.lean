/-
  What is asked of each relocation. Nothing here is a statement of the seed.
-/
import Derived.Test.YtajidaicojekdaaValFn2
import Derived.Deep.RegionHeld3
set_option linter.unusedSimpArgs false
set_option linter.unusedVariables false
namespace Go.Proofs.Ytajidaicojekdaa.VR
open Go.RowKit WM NR OM OR VM
set_option maxHeartbeats 4000000
set_option maxRecDepth 10000
def cho (im dn cn k : Int) : Int := if k = 0 ∨ k = 1 ∨ k = 4 then im else if k = 2 ∨ k = 5 then dn else cn
/-- a module's box and a relocation's -/
abbrev TB (P p : Nat) (x : ByteArray) (ea : Option Addr) (en ec : Nat) (ia : Option Addr) (im ic : Nat) (ca : Option Addr) (cn cc : Nat) (da : Option Addr) (dn dc : Nat) (ra : Option Addr) (rn rc : Nat) (k a b : Int) (u : World) : Prop :=
  MC P x ea en ec ia im ic ca cn cc da dn dc ra rn rc u ∧ u.cell? ⟨p, 0, none⟩ = some (.int .u8 k) ∧ u.cell? ⟨p, 1, none⟩ = some (.int .u16 a) ∧ u.cell? ⟨p, 2, none⟩ = some (.int .u16 b)
section
variable {w : World} {P : Nat} {x : ByteArray} {ea : Option Addr} {en ec : Nat} {ia : Option Addr} {im ic : Nat} {ca : Option Addr} {cn cc : Nat} {da : Option Addr} {dn dc : Nat} {ra : Option Addr} {rn rc : Nat}
theorem tb_of {p : Nat} {W u : World} {k a b : Int} (hP : Whole W P 45 (mCs x ea en ec ia im ic ca cn cc da dn dc ra rn rc)) (hp : Whole W p 76 #[.int .u8 k, .int .u16 a, .int .u16 b]) (hb : Below W.heap.size W u) : TB P p x ea en ec ia im ic ca cn cc da dn dc ra rn rc k a b u := by
  have h1 := mod_cells (hP.belowS hb)
  have h2 := rel_cells (hp.belowS hb)
  exact ⟨h1, h2.1, h2.2.1, h2.2.2⟩
theorem where2_any (hP : Whole w P 45 (mCs x ea en ec ia im ic ca cn cc da dn dc ra rn rc)) (k a b : Int) (hb0 : 0 ≤ b) (hb1 : b ≤ 65535) :
    Calls Try.prog 115 #[.agg #[.int .u8 k, .int .u16 a, .int .u16 b], .pointer (some ⟨P, 0, none⟩)] w fun e w' => e = .returned (.bool (decide (cho im dn cn k ≤ b))) ∧ Below w.heap.size w w' := by
  have C := Lib.hid (fun u => choices_any (w := u) (x := x) (ea := ea) (en := en) (ec := ec) (ia := ia) (im := im) (ic := ic) (ca := ca) (cn := cn) (cc := cc) (da := da) (dn := dn) (dc := dc) (ra := ra) (rn := rn) (rc := rc) k)
  have HB := Lib.hid (below_new w (.cells #[.int .u8 k, .int .u16 a, .int .u16 b] 76))
  have hP1 := hP.alloc (.cells #[.int .u8 k, .int .u16 a, .int .u16 b] 76)
  have hp1 := Whole.new w 76 #[.int .u8 k, .int .u16 a, .int .u16 b]
  have HK := Lib.hid (fun (u : World) (h : Below (w.alloc (.cells #[.int .u8 k, .int .u16 a, .int .u16 b] 76)).heap.size (w.alloc (.cells #[.int .u8 k, .int .u16 a, .int .u16 b] 76)) u) => tb_of hP1 hp1 h)
  have hPl := hP.lt
  have hwr : IntKind.i64.wrap b = b := by rw [IntKind.wrap_i64]; omega
  clear hP hP1 hp1
  unfold cho
  generalize (if k = 0 ∨ k = 1 ∨ k = 4 then (im : Int) else if k = 2 ∨ k = 5 then (dn : Int) else (cn : Int)) = q at *
  go_enter Try.func115, Try.ntmps115
  go_upto_region 1 with fail
  generalize w.alloc (.cells #[.int .u8 k, .int .u16 a, .int .u16 b] 76) = W at *
  have hW : Below W.heap.size W W.drew := (Below.refl _ _).drew
  have K0 := HK.out _ hW
  go_region_held3 (fun u => TB P w.heap.size x ea en ec ia im ic ca cn cc da dn dc ra rn rc k a b u)
    (first | with_reducible exact K0 | with_reducible exact K1)
    (first | (go_at_call 116; (with_reducible refine (C.out _).mono ?_); rintro e w1 ⟨rfl, hb⟩; have hB1 := below_of hW hb; have K1 := HK.out _ hB1))
  rename_i hHeld
  clear hHeld
  go_wp2_with fail
  go_ret
  exact ⟨ret_bool rfl, HB.out.trans (hB1.mono HB.out.size)⟩
/-- a module's box, a relocation's and a word of a list -/
abbrev TBW (P p : Nat) (x : ByteArray) (ea : Option Addr) (en ec : Nat) (ia : Option Addr) (im ic : Nat) (ca : Option Addr) (cn cc : Nat) (da : Option Addr) (dn dc : Nat) (ra : Option Addr) (rn rc : Nat) (k a b : Int) (g o : Nat) (y : Int) (u : World) : Prop :=
  MC P x ea en ec ia im ic ca cn cc da dn dc ra rn rc u ∧ u.cell? ⟨p, 0, none⟩ = some (.int .u8 k) ∧ u.cell? ⟨p, 1, none⟩ = some (.int .u16 a) ∧ u.cell? ⟨p, 2, none⟩ = some (.int .u16 b) ∧ u.cell? ⟨g, o, none⟩ = some (.int .u32 y)
theorem where1_aux {sa : Option Addr} {sn sc : Nat} {l : List Nat} (hP : Whole w P 45 (mCs x ea en ec ia im ic ca cn cc da dn dc ra rn rc)) (k b : Int) (j : Nat) (hs : Reads (· < w.heap.size) w (.slice sa sn sc) (u32s l)) (hj : j < sn) (hy : l.getD j 0 ≤ 4294967295)
    (C0 : ∀ u : World, Calls Try.prog 114 #[mV x ea en ec ia im ic ca cn cc da dn dc ra rn rc, .int .u8 k] u fun e w' => e = .returned (.slice sa sn sc) ∧ Below u.heap.size u w') :
    Calls Try.prog 112 #[.agg #[.int .u8 k, .int .u16 (j : Int), .int .u16 b], .pointer (some ⟨P, 0, none⟩)] w fun e w' => e = .returned (.bool (!openB k ((l.getD j 0 : Nat) : Int))) ∧ Below w.heap.size w w' := by
  have C := Lib.hid C0
  have D := Lib.hid (fun u => isOpen_any k ((l.getD j 0 : Nat) : Int) (by omega) u)
  have HB := Lib.hid (below_new w (.cells #[.int .u8 k, .int .u16 (j : Int), .int .u16 b] 76))
  have hP1 := hP.alloc (.cells #[.int .u8 k, .int .u16 (j : Int), .int .u16 b] 76)
  have hp1 := Whole.new w 76 #[.int .u8 k, .int .u16 (j : Int), .int .u16 b]
  obtain ⟨n1, _, _⟩ := reads_len hs
  rw [u32s_len] at n1
  obtain ⟨g, off, rfl, q1, c1⟩ := reads_at hs HB.out hj
  have hg : g < w.heap.size + 1 := by
    have := World.block_lt_of_cell? (w.alloc (.cells #[.int .u8 k, .int .u16 (j : Int), .int .u16 b] 76)) ⟨g, off + j, none⟩ (c1.trans (words_at (by omega)))
    simpa using this
  rw [words_at (by omega)] at c1
  have HK := Lib.hid (fun (u : World) (h : Below (w.alloc (.cells #[.int .u8 k, .int .u16 (j : Int), .int .u16 b] 76)).heap.size (w.alloc (.cells #[.int .u8 k, .int .u16 (j : Int), .int .u16 b] 76)) u) => And.intro (tb_of hP1 hp1 h) ((h.cell (p := ⟨g, off + j, none⟩) (by simpa using hg)).trans c1))
  have hPl := hP.lt
  have hj0 : (0 : Int) ≤ j := by omega
  have hj1 : (j : Int) < sn := by omega
  have q2 : (sn : Int) ≤ sc := by omega
  clear hP hP1 hp1 c1 n1 hs hy C0 hj q1
  generalize openB k ((l.getD j 0 : Nat) : Int) = r at *
  generalize ((l.getD j 0 : Nat) : Int) = y at *
  go_enter Try.func112, Try.ntmps112
  go_upto_region 1 with fail
  generalize w.alloc (.cells #[.int .u8 k, .int .u16 (j : Int), .int .u16 b] 76) = W at *
  have hW : Below W.heap.size W W.drew := (Below.refl _ _).drew
  have K0 : TBW P w.heap.size x ea en ec ia im ic ca cn cc da dn dc ra rn rc k (j : Int) b g (off + j) y W.drew := by
    obtain ⟨⟨h1, h2, h3, h4⟩, h5⟩ := HK.out _ hW
    exact ⟨h1, h2, h3, h4, h5⟩
  go_region_held3 (fun u => TBW P w.heap.size x ea en ec ia im ic ca cn cc da dn dc ra rn rc k (j : Int) b g (off + j) y u)
    (first | with_reducible exact K0 | with_reducible exact K1 | with_reducible exact K2)
    (first | (go_at_call 114; (with_reducible refine (C.out _).mono ?_); rintro e w1 ⟨rfl, hb⟩; have hB1 := below_of hW hb; have K1 : TBW P w.heap.size x ea en ec ia im ic ca cn cc da dn dc ra rn rc k (j : Int) b g (off + j) y w1 := (by (obtain ⟨⟨h1, h2, h3, h4⟩, h5⟩ := HK.out _ hB1); exact ⟨h1, h2, h3, h4, h5⟩)) | (go_at_call 113; (with_reducible refine (D.out _).mono ?_); rintro e w2 ⟨rfl, hb2⟩; have hB2 := below_of hB1 hb2; have K2 : TBW P w.heap.size x ea en ec ia im ic ca cn cc da dn dc ra rn rc k (j : Int) b g (off + j) y w2 := (by (obtain ⟨⟨h1, h2, h3, h4⟩, h5⟩ := HK.out _ hB2); exact ⟨h1, h2, h3, h4, h5⟩)))
  rename_i hHeld
  clear hHeld
  go_wp2_with fail
  go_ret
  exact ⟨ret_bool rfl, HB.out.trans (hB2.mono HB.out.size)⟩
end
end Go.Proofs.Ytajidaicojekdaa.VR
