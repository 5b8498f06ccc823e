/-
  The program's Image over its Word. Nothing here is a statement of the seed. (First printed by gen_link_image.py, then by hand.)
-/
import Derived.Test.YtajidaicojekdaaLinkPrw
import Derived.Test.YtajidaicojekdaaLayP
set_option linter.unusedSimpArgs false
set_option linter.unusedVariables false
namespace Go.Proofs.Ytajidaicojekdaa.KP
open Go.RowKit WM NR OM OR VM YM YR RM RF KM KF
set_option maxHeartbeats 4000000
set_option maxRecDepth 10000
section
variable {w : World} {ea : Option Addr} {en ec : Nat} {ia : Option Addr} {im ic : Nat} {ca : Option Addr} {cn cc : Nat} {da : Option Addr} {dn dc : Nat} {ra : Option Addr} {rn rc : Nat} {m : Md}
theorem image_any (h : RdM (· < w.heap.size) w ea en ec ia im ic ca cn cc da dn dc ra rn rc m) (hf : FineM m) (hl : cn * 4 ≤ 140737488355328 ∧ dn * 4 ≤ 140737488355328) (c d : Int) (hc : 0 ≤ c ∧ c ≤ 4294967295) (hd : 0 ≤ d ∧ d ≤ 4294967295)
    (l : List Nat) (v : Value) (R : Slots w v l) (hw : ∀ x ∈ l, x < 4294967296) :
    Calls Try.prog 20 #[mV (bs m.name) ea en ec ia im ic ca cn cc da dn dc ra rn rc, plV c d, v] w fun e w' => ∃ q, e = .returned (.tuple #[q, .int .i64 (imgE m c d l)]) ∧ IsImg w.heap.size w' q m c d l ∧ Below w.heap.size w w' := by
  obtain ⟨l1, l2, l3, l4, l5⟩ := h.lens
  have J0 := Lib.hid (LJ.new w (mCs (bs m.name) ea en ec ia im ic ca cn cc da dn dc ra rn rc) #[.int .u32 c, .int .u32 d] 48)
  have k3 := (reads_len h.cd).2
  have k4 := (reads_len h.dt).2
  have k5 := h.rl.len.2
  have hcn0 : (cn : Int) ≤ cc := by omega
  have hdn0 : (dn : Int) ≤ dc := by omega
  have hrn0 : (rn : Int) ≤ rc := by omega
  by_cases hg : lngB m = true
  · have he : imgE m c d l = 5 := by unfold imgE; rw [hg]; rfl
    have hI : ∀ u, IsImg w.heap.size u (.slice none 0 0) m c d l := fun u => ⟨fun e => by rw [he] at e; omega, fun _ => rfl⟩
    rw [he]
    have HI := Lib.hid hI
    have CL := Lib.hid (fun (u : World) (hb : Below w.heap.size w u) => isLong_any (h.go hb hb.size))
    rw [hg] at CL
    clear h hf R hw hl he hI l1 l2 l3 l4 l5 k3 k4 k5 hg
    generalize bs m.name = x at *
    go_enter Try.func20, Try.ntmps20
    go_upto_region 1 with fail
    generalize (w.alloc (.cells (mCs x ea en ec ia im ic ca cn cc da dn dc ra rn rc) 45)).alloc (.cells #[.int .u32 c, .int .u32 d] 48) = W at *
    obtain ⟨c0, c1, c2, c3, c4, c5⟩ := mod_cells J0.out.X
    have c6 := J0.out.X.lt
    go_wp2_with (go_at_call 51; (with_reducible refine (CL.out _ J0.out.B).mono ?_); rintro e w1 ⟨rfl, hb⟩; have J1 := Lib.hid (J0.out.belowS hb); clear hb)
    exact bodyPost_ret (v := .tuple #[.slice none 0 0, .int .i64 5]) (by simp [results, Try.results20, go_sem, *]) rfl ⟨_, rfl, HI.out _, J1.out.B⟩
  · have hg : lngB m = false := by simpa using hg
    obtain ⟨hp1, hp2⟩ := nW_pages hg
    have hgn := of_decide_eq_false hg
    rw [l3, l4, l5] at hgn
    rw [l3, l4] at hp1
    have g1' : ¬ (512 : Int) < cn := by omega
    have g2' : ¬ (128 : Int) < dn := by omega
    have g3' : ¬ (256 : Int) < rn := by omega
    have b1 : pgs cn ≤ 32 := pgs_le (by omega)
    have b2 : pgs dn ≤ 8 := pgs_le (by omega)
    have C1 := Lib.hid (fun (u : World) (hb : Below w.heap.size w u) => of_any (h.go hb hb.size) hl)
    have CL := Lib.hid (fun (u : World) (hb : Below w.heap.size w u) => isLong_any (h.go hb hb.size))
    rw [hg] at CL
    have C2 := Lib.hid (words_any ((pgs cn : Nat) : Int) ((pgs dn : Nat) : Int) (by omega) (by omega))
    rw [hp1] at C2
    have CW := Lib.hid (fun (u : World) (hb : Below w.heap.size w u) (k : Nat) (hk : k ≤ 640) => word_any (h.go hb hb.size) hf hl c d hc hd l v (R.below hb) hw (k : Int) (by omega))
    have HE := Lib.hid (fun (k : Nat) (hk : k < nW m) hp h => err_at (m := m) (c := c) (d := d) (l := l) (k := k) hg hk hp h)
    have HN := Lib.hid (fun hp => err_none (m := m) (c := c) (d := d) (l := l) hg hp)
    have HB := Lib.hid (fun k : Nat => wrdW_bd hf (c := c) (d := d) hw (k : Int))
    have HP := Lib.hid (fun (k : Nat) (X : Int) h1 h2 => KF.part_snoc (m := m) (c := c) (d := d) (l := l) (k := k) (X := X) h1 h2)
    have HI0 := Lib.hid (fun (u : World) (E : Int) (hE : imgE m c d l = E) (h0 : E ≠ 0) => (⟨fun e => absurd (hE.symm.trans e) h0, fun _ => rfl⟩ : IsImg w.heap.size u (.slice none 0 0) m c d l))
    have HI1 := Lib.hid (fun (u : World) (q : Value) (hE : imgE m c d l = 0) (ho : u.ownsRow w.heap.size 46 1 q (nW m) (u32s (KF.part m c d l (nW m)))) => (⟨fun _ => ho, fun hn => absurd hE hn⟩ : IsImg w.heap.size u q m c d l))
    obtain ⟨IE, hIE⟩ : ∃ q, imgE m c d l = q := ⟨_, rfl⟩
    rw [hIE] at HE HN ⊢
    have HIE := Lib.hid hIE
    clear h hf R hw hl hg hgn l1 l2 l3 l4 l5 k3 k4 k5 hp1 b1 b2 hc hd hIE
    obtain ⟨i0, hi, hz0, hz1, hz2⟩ := info_parts infoWord
    have HPL := Lib.hid (KF.part_len m c d l)
    generalize hPT : KF.part m c d l = PT at *
    have HP0 : Hid (PT 0 = []) := Lib.hid (by rw [← hPT]; rfl)
    clear hPT
    generalize nW m = n at *
    generalize pgs cn = p at *
    generalize pgs dn = pq at *
    generalize bs m.name = x at *
    go_enter Try.func20, Try.ntmps20
    go_upto_region 1 with fail
    generalize (w.alloc (.cells (mCs x ea en ec ia im ic ca cn cc da dn dc ra rn rc) 45)).alloc (.cells #[.int .u32 c, .int .u32 d] 48) = W at *
    have JJ := J0
    obtain ⟨c0, c1, c2, c3, c4, c5⟩ := mod_cells JJ.out.X
    have c6 := JJ.out.X.lt
    go_wp2_with (first | (go_at_call 51; (with_reducible refine (CL.out _ JJ.out.B).mono ?_); rintro e w0 ⟨rfl, hb⟩; have JJ := Lib.hid (JJ.out.belowS hb); have HW0 := Lib.hid hb; obtain ⟨c0, c1, c2, c3, c4, c5⟩ := mod_cells JJ.out.X; have c6 := JJ.out.X.lt; clear hb) | (go_at_call 25; (with_reducible refine (C1.out _ JJ.out.B).mono ?_); rintro e w1 ⟨rfl, hb⟩; have JJ := Lib.hid (JJ.out.belowS hb); have HW1 := Lib.hid (HW0.out.trans (hb.mono HW0.out.size)); clear hb) | (go_at_call 26; (with_reducible refine (C2.out _).mono ?_); rintro e w2 ⟨rfl, hb⟩; have JJ := Lib.hid (JJ.out.belowS hb); have HW2 := Lib.hid (HW1.out.trans (hb.mono HW1.out.size)); clear hb))
    clear c0 c1 c2 c3 c4 c5 c6 JJ
    go_loopw [8, 17] (fun o i wr => ∃ (k : Nat) (q : Value), k ≤ n ∧ i = .int .i64 (k : Int) ∧ o = q ∧ wr.ownsRow W.heap.size 46 1 q k (u32s (PT k)) ∧ Hid (∀ j, j < k → wrdE m c d l (j : Nat) = 0) ∧ Below W.heap.size W wr) (fun o i _ => n - (intOf i).toNat)
    case atStart => exact ⟨0, _, by omega, rfl, rfl, by rw [HP0.out]; exact World.ownsRow_nil _ _ _ _, Lib.hid (fun j hj => by omega), HW2.out⟩
    case round =>
      obtain ⟨k, q, hk, rfl, rfl, hown, hp, hbl⟩ := hrel
      have hj := J0.out.belowS hbl
      obtain ⟨c0, c1, c2, c3, c4, c5⟩ := mod_cells hj.X
      have c6 := hj.X.lt
      obtain ⟨p0, p1⟩ := pl_cells hj.Y
      have p6 := hj.Y.lt
      have hwb := Lib.hid (J0.out.B)
      by_cases hlt : k < n
      · have hlt' : (k : Int) < n := by omega
        have CWk := CW.out wr hj.B k (by omega)
        by_cases he : wrdE m c d l (k : Nat) = 0
        · have hp2 := Lib.hid (fun j (hj : j < k + 1) => if h' : j < k then hp.out j h' else by rw [show j = k by omega]; exact he)
          rw [he] at CWk
          obtain ⟨X, hX⟩ : ∃ X, wrdW m c d l (k : Nat) = X := ⟨_, rfl⟩
          have hsn := Lib.hid (HP.out k X hX (by have := (HB.out k).1; rw [hX] at this; exact this))
          rw [hX] at CWk
          have CWk := Lib.hid CWk
          clear hX hp he
          have hnb : (k + 1) * 4 ≤ 140737488355328 := by omega
          have hnm : k + 1 ≤ maxLen := by unfold maxLen; omega
          go_wp2_with (first | (go_at_call 17; (with_reducible refine CWk.out.mono ?_); rintro e w3 ⟨rfl, hb3⟩; have hown3 := owns_below hown hb3; have hbl3 := below_of hbl hb3; have hj3 := Lib.hid (hj.belowS hb3); obtain ⟨c0, c1, c2, c3, c4, c5⟩ := mod_cells hj3.out.X; have c6 := hj3.out.X.lt; obtain ⟨p0, p1⟩ := pl_cells hj3.out.Y; have p6 := hj3.out.Y.lt; clear hb3) | (at_builtin; refine wpList_append_own _ rfl _ _ 36 rfl W.heap.size 46 i0 (.int .u32 0) 1 4 Try.underlying36 hi hz0 hz1 hz2 rfl (by decide) _ _ _ rfl (hown3.alloc _) ⟨w3.heap.size, 0, none⟩ 1 1 [.int .u32 X] rfl rfl ?c1 ?c2 hnm hnb ?c5 ?_))
          case c1 => exact oneC _ _ _
          case c2 => intro u hu; simp at hu; subst hu; rfl
          case c5 => simp; have := hbl3.size; omega
          intro v' w4 hown4 hgrow _
          have hB4 := (hbl3.alloc hbl3.size (.cells #[.int .u32 X] 46)).grown hgrow (Nat.le_trans hbl3.size (by simp)) (fun g hg => (hown3.lt g hg).1)
          rw [hsn.out] at hown4
          go_wp2_with fail
          go_roundw
          case rel => exact ⟨k + 1, _, by omega, by go_num, rfl, hown4, hp2, hB4⟩
          case measure => simp [intOf]; omega
        · have hE := HE.out k hlt hp.out he
          have CWk := Lib.hid CWk
          rw [← hE] at CWk he
          have he' : (IE != 0) = true := by simpa using he
          have HIk := Lib.hid (fun u => HI0.out u IE HIE.out he)
          clear hp he hE
          go_wp2_with (go_at_call 17; (with_reducible refine CWk.out.mono ?_); rintro e w3 ⟨rfl, hb3⟩; have hown3 := owns_below hown hb3; have hbl3 := below_of hbl hb3; have hj3 := Lib.hid (hj.belowS hb3); obtain ⟨c0, c1, c2, c3, c4, c5⟩ := mod_cells hj3.out.X; have c6 := hj3.out.X.lt; obtain ⟨p0, p1⟩ := pl_cells hj3.out.Y; have p6 := hj3.out.Y.lt; clear hb3)
          exact bodyPost_ret (v := .tuple #[.slice none 0 0, .int .i64 IE]) (by simp [results, Try.results20, go_sem, *]) rfl ⟨_, rfl, HIk.out _, hj3.out.B⟩
      · obtain rfl : k = n := by omega
        have hE := HN.out hp.out
        subst hE
        have hlt' : ¬ (k : Int) < k := by omega
        have HO := Lib.hid (owns_base hown (B' := w.heap.size) J0.out.B.size)
        have HBJ := Lib.hid hj.B
        clear hp hj
        go_wp2_with fail
        exact bodyPost_ret (v := .tuple #[u8, .int .i64 0]) (by simp [results, Try.results20, go_sem, *]) rfl ⟨_, rfl, HI1.out _ _ HIE.out HO.out, HBJ.out⟩
end
end Go.Proofs.Ytajidaicojekdaa.KP
