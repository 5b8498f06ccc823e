/-
  The reference of layer 17: what is due, and what is left. Nothing here is a statement of the seed.
-/
import Derived.Test.YtcpkiepdpmaeoaaEpApp
import Derived.Deep.RegionHeld3
import Derived.Deep.CutRange
set_option linter.unusedSimpArgs false
set_option linter.unusedVariables false
namespace Go.Proofs.Ytcpkiepdpmaeoaa.EF
open Go.RowKit WM NR OM OR EM ER
set_option maxHeartbeats 4000000
set_option maxRecDepth 10000
/-- on the way of Take: the clock's box, the result's, the new clock's with its row, and the row of owners -/
structure TJ (w : World) (t : Int) (la : Option Addr) (ln lc : Nat) (q v : Value) (m n : Nat) (P : List Int) (D : List Wt) (u : World) : Prop where
  X : Whole u w.heap.size 29 (ckC t la ln lc)
  Y : Whole u (w.heap.size + 1) 29 (ckC 0 none 0 0)
  Z : Whole u (w.heap.size + 2) 29 #[.int .u64 t, v]
  E : u.ownsRow (w.heap.size + 3) 67 2 v n (wC D)
  O : u.ownsRow (w.heap.size + 3) 32 1 q m (oC P)
  B : Below w.heap.size w u
section
variable {w u u' : World} {t : Int} {la : Option Addr} {ln lc : Nat} {q v : Value} {m n : Nat} {P : List Int} {D : List Wt}
theorem TJ.belowS (h : TJ w t la ln lc q v m n P D u) (hb : Below u.heap.size u u') : TJ w t la ln lc q v m n P D u' :=
  ⟨h.X.belowS hb, h.Y.belowS hb, h.Z.belowS hb, owns_below h.E hb, owns_below h.O hb, h.B.trans (hb.mono h.B.size)⟩
theorem TJ.put (h : TJ w t la ln lc q v m n P D u) {v7 : Value} {x : Wt} (ho : u'.ownsRow (w.heap.size + 3) 67 2 v7 (n + 1) (wC (D ++ [x]))) (hg : u.grownBy u' v.ownBlock) : TJ w t la ln lc q v7 m (n + 1) P (D ++ [x]) (u'.setCell ⟨w.heap.size + 2, 1, none⟩ v7) ∧ Whole u' (w.heap.size + 2) 29 #[.int .u64 t, v] := by
  have r : ∀ g, v.ownBlock = some g → w.heap.size + 3 ≤ g := fun g hg => (owns_lt h.E hg).1
  have k1 := whole_kept h.X hg fun g hg => by have := r g hg; omega
  have k2 := whole_kept h.Y hg fun g hg => by have := r g hg; omega
  have k3 := whole_kept h.Z hg fun g hg => by have := r g hg; omega
  have kB := below_grown h.B h.B.size h.E (by omega) hg
  have kO := owns_off h.O hg (owns_ne h.O h.E (by decide))
  exact ⟨⟨Whole.far k1 (p := ⟨w.heap.size + 2, 1, none⟩) (show w.heap.size ≠ w.heap.size + 2 by omega) _, Whole.far k2 (p := ⟨w.heap.size + 2, 1, none⟩) (show w.heap.size + 1 ≠ w.heap.size + 2 by omega) _, Whole.set_ k3 1 v7, own_set ho (by omega) _, own_set kO (by omega) _, kB.setCell (by simp) _⟩, k3⟩
theorem TJ.own (h : TJ w t la ln lc q v m n P D u) {q7 : Value} {o : Int} (ho : u'.ownsRow (w.heap.size + 3) 32 1 q7 (m + 1) (oC (P ++ [o]))) (hg : u.grownBy u' q.ownBlock) : TJ w t la ln lc q7 v (m + 1) n (P ++ [o]) D u' := by
  have r : ∀ g, q.ownBlock = some g → w.heap.size + 3 ≤ g := fun g hg => (owns_lt h.O hg).1
  exact ⟨whole_kept h.X hg fun g hg => by have := r g hg; omega, whole_kept h.Y hg fun g hg => by have := r g hg; omega, whole_kept h.Z hg fun g hg => by have := r g hg; omega, owns_off h.E hg (owns_ne h.E h.O (by decide)), ho, below_grown h.B h.B.size h.O (by omega) hg⟩
end
/-- a clock and owners come back -/
def IsTk (t : Int) (hs : List Hr) (l : List Wt) (w : World) : Ending → World → Prop := fun e u => ∃ la ln lc q, e = .returned (.tuple #[ckV t la ln lc, q]) ∧ ReadsW (fun b => w.heap.size ≤ b ∧ b < u.heap.size) u (.slice la ln lc) (lefM hs l) ∧ IsOw w.heap.size u q (dueM hs l) ∧ Below w.heap.size w u
theorem take_post {w u : World} {t : Int} {la : Option Addr} {ln lc : Nat} {q : Value} {m n : Nat} {a1 : Option Addr} {c1 : Nat} {hs : List Hr} {l : List Wt} (h : TJ w t la ln lc q (.slice a1 n c1) m n (dueM hs l) (lefM hs l) u) :
    IsTk t hs l w (.returned (.tuple #[ckV t a1 n c1, q])) ((u.setCell ⟨w.heap.size + 1, 0, none⟩ (.int .u64 t)).setCell ⟨w.heap.size + 1, 1, none⟩ (.slice a1 n c1)) := by
  have hE := own_set (i := 1) (own_set (i := 0) h.E (show w.heap.size + 1 < w.heap.size + 3 by omega) (.int .u64 t)) (show w.heap.size + 1 < w.heap.size + 3 by omega) (.slice a1 n c1)
  have hO := own_set (i := 1) (own_set (i := 0) h.O (show w.heap.size + 1 < w.heap.size + 3 by omega) (.int .u64 t)) (show w.heap.size + 1 < w.heap.size + 3 by omega) (.slice a1 n c1)
  refine ⟨a1, n, c1, q, rfl, (ReadsW.of_owns hE).there.mono fun g hg => ⟨by have := hg.1.1; omega, hg.2⟩, ?_, (h.B.setCell (by simp) _).setCell (by simp) _⟩
  exact Reads.mono (IsOw.of_owns hO) fun g hg => ⟨by have := hg.1; omega, hg.2⟩
section
variable {w : World} {a : Option Addr} {hn hc : Nat} {hs : List Hr} {la : Option Addr} {ln lc : Nat} {l : List Wt}
theorem refTake_any {G : Nat → Prop} (h : ReadsW G w (.slice la ln lc) l) (hG : ∀ g, G g → g < w.heap.size) (hbd : ln ≤ 100000) (t : Int) (hl : ∀ x ∈ l, 0 ≤ x.ep ∧ x.ep ≤ 18446744073709551615) (hh : ReadsH (· < w.heap.size) w (.slice a hn hc) hs) :
    Calls Try.prog 24 #[ckV t la ln lc, .slice a hn hc] w (IsTk t hs l w) := by
  obtain ⟨lm, q2, _⟩ := h.len
  have hn1 : (ln : Int) ≤ 9223372036854775807 := by omega
  have q2 : (ln : Int) ≤ lc := by omega
  have b0 := below_new w (.cells (ckC t la ln lc) 29)
  have b1 := below_new (w.alloc (.cells (ckC t la ln lc) 29)) (.cells (ckC 0 none 0 0) 29)
  have hX := (Whole.new w 29 (ckC t la ln lc)).belowS b1
  have hB := b0.trans (b1.mono b0.size)
  have hY := Whole.new (w.alloc (.cells (ckC t la ln lc) 29)) 29 (ckC 0 none 0 0)
  have s0 : (w.alloc (.cells (ckC t la ln lc) 29)).heap.size = w.heap.size + 1 := by simp
  have s1 : ((w.alloc (.cells (ckC t la ln lc) 29)).alloc (.cells (ckC 0 none 0 0) 29)).heap.size = w.heap.size + 2 := by simp
  rw [s0] at hY
  have HT := Lib.hid h
  have HGG := Lib.hid hG
  have HH := Lib.hid hh
  have HEP := Lib.hid (fun (k : Nat) (hk : k < l.length) => hl _ (EM.getD_mem (d := EM.w0) hk))
  have HLM := Lib.hid lm
  clear s0 b0 b1 h hG hh hl lm
  go_enter Try.func24, Try.ntmps24
  go_upto_region 1 with fail
  generalize (w.alloc (.cells (ckC t la ln lc) 29)).alloc (.cells (ckC 0 none 0 0) 29) = w1 at *
  obtain ⟨x0, x1⟩ := (⟨hX.cell 0, hX.cell 1⟩ : w1.cell? ⟨w.heap.size, 0, none⟩ = some (.int .u64 t) ∧ w1.cell? ⟨w.heap.size, 1, none⟩ = some (.slice la ln lc))
  have x6 := hX.lt
  go_upto_region 2 with fail
  have bn := below_new w1 (.cells (ckC t none 0 0) 29)
  have hZ := Whole.new w1 29 (ckC t none 0 0)
  rw [s1] at hZ
  have J1 := Lib.hid (show TJ w t la ln lc (.slice none 0 0) (.slice none 0 0) 0 0 [] [] (w1.alloc (.cells (ckC t none 0 0) 29)) from ⟨hX.belowS bn, hY.belowS bn, hZ, owns_nil _ _ _ _, owns_nil _ _ _ _, hB.trans (bn.mono hB.size)⟩)
  clear bn hX hY hB hZ x0 x1 x6
  generalize w1.alloc (.cells (ckC t none 0 0) 29) = W1 at *
  clear s1
  go_wp2_with fail
  go_loopw [7, 8] (fun v7 i wr => ∃ k : Nat, k ≤ ln ∧ i = .int .i64 (k : Int) ∧ ∃ q v m n, v7 = q ∧ Hid (TJ w t la ln lc q v m n (dueM hs (l.take k)) (lefM hs (l.take k)) wr)) (fun _ i _ => ln - (intOf i).toNat)
  case atStart => exact ⟨0, by omega, rfl, _, _, _, _, rfl, J1⟩
  case round =>
    obtain ⟨k, hk, rfl, q, v, m, n, rfl, J⟩ := hrel
    have c0 : wr.cell? ⟨w.heap.size, 1, none⟩ = some (.slice la ln lc) := J.out.X.cell 1
    have c6 := J.out.X.lt
    have z0 : wr.cell? ⟨w.heap.size + 2, 1, none⟩ = some v := J.out.Z.cell 1
    have z6 := J.out.Z.lt
    by_cases hlt : k < ln
    · have hlt' : (k : Int) < ln := by omega
      have kl : k < l.length := by rw [HLM.out]; exact hlt
      have RE : Hid (∀ u, Below w.heap.size w u → ∃ g off, la = some ⟨g, off, none⟩ ∧ u.cell? ⟨g, off + k * 2, none⟩ = some (.int .u16 (l.getD k EM.w0).ow) ∧ u.cell? ⟨g, off + k * 2 + 1, none⟩ = some (.int .u64 (l.getD k EM.w0).ep)) := Lib.hid (fun u hu => by
        obtain ⟨g, off, e1, _, _, e2, e3⟩ := HT.out.atG (u := u) (fun g hg _ => hu.block g (HGG.out g hg)) hlt
        exact ⟨g, off, e1, e2, e3⟩)
      have HTK := take_succ' (d := EM.w0) l k kl
      have hep := HEP.out k kl
      have CP := Lib.hid (refPassed_any (HH.out.go J.out.B (Nat.le_refl _)) (l.getD k EM.w0).ep hep)
      have hD2 := due_snoc hs (l.take k) (l.getD k EM.w0)
      have hL2 := lef_snoc hs (l.take k) (l.getD k EM.w0)
      rw [← HTK] at hD2 hL2
      have hml : m ≤ 100000 ∧ n ≤ 100000 := by
        have h1 := J.out.E.1
        have h2 := J.out.O.1
        rw [wC_len] at h1
        rw [oC_len] at h2
        have h3 := due_len hs (l.take k)
        have h4 := lef_len hs (l.take k)
        rw [List.length_take] at h3 h4
        omega
      obtain ⟨hm1, hn2⟩ := hml
      obtain ⟨g, off, hla, e1, e2⟩ := RE.out wr J.out.B
      obtain ⟨y, hy⟩ : ∃ y, y = l.getD k EM.w0 := ⟨_, rfl⟩
      rw [← hy] at e1 e2 hep CP hD2 hL2 RE
      obtain ⟨D2, hDe⟩ : ∃ D, D = dueM hs (l.take (k + 1)) := ⟨_, rfl⟩
      obtain ⟨L2, hLe⟩ : ∃ D, D = lefM hs (l.take (k + 1)) := ⟨_, rfl⟩
      rw [← hDe] at hD2
      rw [← hLe] at hL2
      have HDE := Lib.hid (And.intro hDe hLe)
      clear hDe hLe HTK kl
      subst hla
      cases hp : pasB hs y.ep with
      | true =>
        rw [hp] at CP hD2 hL2
        rw [if_pos rfl] at hD2 hL2
        have HJ := Lib.hid J.out
        clear J z0 z6
        obtain ⟨v34, hv34⟩ : ∃ x, x = dueM hs (l.take k) := ⟨_, rfl⟩
        rw [← hv34] at hD2 HJ
        rw [← hL2] at HJ
        clear hv34 hL2 hy RE hp hep
        go_upto_region 7 with (go_at_call 15; (with_reducible refine CP.out.mono ?_); rintro e w2 ⟨rfl, rfl⟩)
        obtain ⟨i0, hi, hz0, hz1, hz2⟩ := info_split infoU16
        have hownO := HJ.out.O
        have hB := HJ.out.B
        go_wp2_with (at_builtin; refine wpList_append_own _ rfl _ _ 45 rfl (w.heap.size + 3) 32 i0 (.int .u16 0) 1 2 Try.underlying45 hi hz0 hz1 hz2 rfl (by decide) _ _ _ rfl (hownO.alloc _) ⟨wr.heap.size, 0, none⟩ 1 1 [.int .u16 y.ow] rfl rfl ?c1 ?c2 (by unfold maxLen; omega) (by omega) ?c5 ?_)
        case c1 => exact oneC _ _ _
        case c2 => intro u hu; simp at hu; subst hu; rfl
        case c5 => have := HJ.out.Z.lt; simp; omega
        intro v' w4 hown4 hgrow _
        have J4 := (HJ.out.belowS (below_new wr (.cells #[.int .u16 y.ow] 32))).own (q7 := v') (o := y.ow) (by rw [oC_append]; exact hown4) hgrow
        rw [← hD2, HDE.out.1, HDE.out.2] at J4
        have HJ4 := Lib.hid J4
        clear J4 HDE hD2 hown4 hgrow hownO hB
        go_wp2_with fail
        go_roundw
        case rel => exact ⟨k + 1, by omega, by go_num, _, _, _, _, rfl, HJ4⟩
        case measure => simp [intOf]; omega
      | false =>
        rw [hp] at CP hD2 hL2
        rw [if_neg (by decide)] at hD2 hL2
        obtain ⟨D0, hD0⟩ : ∃ x, x = lefM hs (l.take k) := ⟨_, rfl⟩
        have HJ : Hid (TJ w t (some ⟨g, off, none⟩) ln lc u7 v m n D2 D0 wr) := Lib.hid (by rw [hD2, hD0]; exact J.out)
        rw [← hD0] at hL2
        clear J hD0 hD2 hy hp hep
        have KE : ∀ u, Below w.heap.size w u → u.cell? ⟨g, off + k * 2, none⟩ = some (.int .u16 y.ow) ∧ u.cell? ⟨g, off + k * 2 + 1, none⟩ = some (.int .u64 y.ep) := fun u hu => by
          obtain ⟨g', off', e3, e4, e5⟩ := RE.out u hu
          simp only [Option.some.injEq, Addr.mk.injEq, and_true] at e3
          obtain ⟨rfl, rfl⟩ := e3
          exact ⟨e4, e5⟩
        clear RE
        go_upto_region 7 with (go_at_call 15; (with_reducible refine CP.out.mono ?_); rintro e w2 ⟨rfl, rfl⟩)
        clear CP
        go_upto_region 8 with fail
        have b6 : Below wr.heap.size wr ((wr.alloc (.cells #[.int .u16 y.ow, .int .u64 y.ep] 67)).drew) := (below_new wr _).drew
        have J6 := HJ.out.belowS b6
        have S6 := J6.Z.lt
        obtain ⟨v7, u7, hr7, ho7, hg7⟩ := app_wt (ty := 27) (u := (wr.alloc (.cells #[.int .u16 y.ow, .int .u64 y.ep] 67)).drew) (B := w.heap.size + 3) (by omega) J6.E ((one_wt wr y 67).keep (fun g _ _ => rfl)) (by omega)
        obtain ⟨a7, c7, rfl, _⟩ := owns_le ho7
        obtain ⟨J8, k3⟩ := J6.put ho7 hg7
        have X7 := whole_kept J6.X hg7 (fun g hg => by have := (owns_lt J6.E hg).1; omega)
        have B7 := below_grown J6.B J6.B.size J6.E (by omega) hg7
        have KF : ∀ u, Whole u w.heap.size 29 (ckC t (some ⟨g, off, none⟩) ln lc) → Below w.heap.size w u → u.cell? ⟨w.heap.size, 1, none⟩ = some (.slice (some ⟨g, off, none⟩) ln lc) ∧ u.cell? ⟨g, off + k * 2, none⟩ = some (.int .u16 y.ow) ∧ u.cell? ⟨g, off + k * 2 + 1, none⟩ = some (.int .u64 y.ep) := fun u hX hB => ⟨hX.cell 1, KE u hB⟩
        have K0 := KF wr.drew HJ.out.X HJ.out.B.drew
        have K6 := KF _ J6.X J6.B
        have K7 := KF _ X7 B7
        have K8 := KF _ J8.X J8.B
        rw [← hL2, HDE.out.1, HDE.out.2] at J8
        have HJ8 := Lib.hid J8
        have y0 : ((wr.alloc (.cells #[.int .u16 y.ow, .int .u64 y.ep] 67)).drew).cell? ⟨w.heap.size + 2, 1, none⟩ = some v := J6.Z.cell 1
        have y1 : wr.drew.cell? ⟨w.heap.size + 2, 1, none⟩ = some v := z0
        have x0 := k3.cell 1
        have x6 := k3.lt
        have xf := k3.frozen 1
        clear KF J8 k3 X7 B7 J6 b6 HJ KE hL2 HDE e1 e2
        refine wp_region_held_drew (S := (fun u => u.cell? ⟨w.heap.size, 1, none⟩ = some (.slice (some ⟨g, off, none⟩) ln lc) ∧ u.cell? ⟨g, off + k * 2, none⟩ = some (.int .u16 y.ow) ∧ u.cell? ⟨g, off + k * 2 + 1, none⟩ = some (.int .u64 y.ep))) (by kernel_rfl) K0 (fun hHeld => ?_)
        refine wpAnyH_take (i := 0) (v := ?qvv0) rfl (by kernel_rfl) (by kernel_rfl) (by kernel_rfl) (fun _ _ _ h => h) (Or.inl ⟨by rfl, ?qhy0⟩) (by assumption) ?qrest0
        case qhy0 =>
          intro u hSu
          obtain ⟨s0, s1, s2⟩ := hSu
          go_simp
          try with_reducible rfl
        try simp only [Act.put, List.getElem_toArray, List.getElem_cons_succ, List.getElem_cons_zero, List.setIfInBounds_toArray, List.set_cons_zero, List.set_cons_succ]
        refine wpAnyH_take (i := 2) (v := ?qvv2) rfl (by kernel_rfl) (by kernel_rfl) (by kernel_rfl) (fun _ _ _ h => h) (Or.inl ⟨by rfl, ?qhy2⟩) (by assumption) ?qrest2
        case qhy2 =>
          intro u hSu
          obtain ⟨s0, s1, s2⟩ := hSu
          go_simp
          try with_reducible rfl
        try simp only [Act.put, List.getElem_toArray, List.getElem_cons_succ, List.getElem_cons_zero, List.setIfInBounds_toArray, List.set_cons_zero, List.set_cons_succ]
        refine wpAnyH_take (i := 3) (v := ?qvv3) rfl (by kernel_rfl) (by kernel_rfl) (by kernel_rfl) (fun _ _ _ h => h) (Or.inl ⟨by rfl, ?qhy3⟩) (by assumption) ?qrest3
        case qhy3 =>
          intro u hSu
          obtain ⟨s0, s1, s2⟩ := hSu
          go_simp
          try with_reducible rfl
        try simp only [Act.put, List.getElem_toArray, List.getElem_cons_succ, List.getElem_cons_zero, List.setIfInBounds_toArray, List.set_cons_zero, List.set_cons_succ]
        refine wpAnyH_take (i := 4) (v := ?qvv4) rfl (by kernel_rfl) (by kernel_rfl) (by kernel_rfl) (fun _ _ _ h => h) (Or.inl ⟨by rfl, ?qhy4⟩) (by assumption) ?qrest4
        case qhy4 =>
          intro u hSu
          obtain ⟨s0, s1, s2⟩ := hSu
          go_simp
          try with_reducible rfl
        try simp only [Act.put, List.getElem_toArray, List.getElem_cons_succ, List.getElem_cons_zero, List.setIfInBounds_toArray, List.set_cons_zero, List.set_cons_succ]
        refine wpAnyH_take (i := 5) (v := ?qvv5) rfl (by kernel_rfl) (by kernel_rfl) (by kernel_rfl) (fun _ _ _ h => h) (Or.inl ⟨by rfl, ?qhy5⟩) (by assumption) ?qrest5
        case qhy5 =>
          intro u hSu
          obtain ⟨s0, s1, s2⟩ := hSu
          go_simp
          try with_reducible rfl
        try simp only [Act.put, List.getElem_toArray, List.getElem_cons_succ, List.getElem_cons_zero, List.setIfInBounds_toArray, List.set_cons_zero, List.set_cons_succ]
        refine wpAnyH_take (i := 6) (v := ?qvv6) rfl (by kernel_rfl) (by kernel_rfl) (by kernel_rfl) (fun _ _ _ h => h) (Or.inl ⟨by rfl, ?qhy6⟩) (by assumption) ?qrest6
        case qhy6 =>
          intro u hSu
          obtain ⟨s0, s1, s2⟩ := hSu
          go_simp
          try with_reducible rfl
        try simp only [Act.put, List.getElem_toArray, List.getElem_cons_succ, List.getElem_cons_zero, List.setIfInBounds_toArray, List.set_cons_zero, List.set_cons_succ]
        refine wpAnyH_ready (rs := [1, 7]) (by kernel_rfl) (by simp) ?_
        refine AllReadyH.cons rfl ?_ (AllReadyH.cons rfl ?_ AllReadyH.nil)
        · intro K hK
          go_simp
          refine hK.out _ _ K0 (fun hHeld => ?_)
          clear hK K
          try simp only [Act.put, List.getElem_toArray, List.getElem_cons_succ, List.getElem_cons_zero, List.setIfInBounds_toArray, List.set_cons_zero, List.set_cons_succ]
          refine wpAnyH_ready (rs := [7]) (by kernel_rfl) (by simp) ?_
          refine AllReadyH.cons rfl (fun K hK => ?_) AllReadyH.nil
          go_simp
          refine hK.out _ _ K6 (fun hHeld => ?_)
          clear hK K
          try simp only [Act.put, List.getElem_toArray, List.getElem_cons_succ, List.getElem_cons_zero, List.setIfInBounds_toArray, List.set_cons_zero, List.set_cons_succ]
          refine wpAnyH_ready (rs := [8]) (by kernel_rfl) (by simp) ?_
          refine AllReadyH.cons rfl (fun K hK => ?_) AllReadyH.nil
          refine Lib.wp_append_run _ _ _ _ _ rfl v (.slice (some ⟨wr.heap.size, 0, none⟩) 1 1) rfl rfl _ _ hr7 ?_
          refine hK.out _ _ K7 (fun hHeld => ?_)
          clear hK K
          try simp only [Act.put, List.getElem_toArray, List.getElem_cons_succ, List.getElem_cons_zero, List.setIfInBounds_toArray, List.set_cons_zero, List.set_cons_succ]
          refine wpAnyH_take (i := 9) (v := ?qavv9) rfl (by kernel_rfl) (by kernel_rfl) (by kernel_rfl) (fun _ _ _ h => h) (Or.inl ⟨by rfl, ?qahy9⟩) (by assumption) ?qarest9
          case qahy9 =>
            intro u hSu
            obtain ⟨s0, s1, s2⟩ := hSu
            go_simp
            try with_reducible rfl
          try simp only [Act.put, List.getElem_toArray, List.getElem_cons_succ, List.getElem_cons_zero, List.setIfInBounds_toArray, List.set_cons_zero, List.set_cons_succ]
          refine wpAnyH_ready (rs := [10]) (by kernel_rfl) (by simp) ?_
          refine AllReadyH.cons rfl (fun K hK => ?_) AllReadyH.nil
          go_simp
          refine hK.out _ _ K8 (fun hHeld => ?_)
          clear hK K
          try simp only [Act.put, List.getElem_toArray, List.getElem_cons_succ, List.getElem_cons_zero, List.setIfInBounds_toArray, List.set_cons_zero, List.set_cons_succ]
          refine wpAnyH_done (by kernel_rfl) ?_ _
          clear K0 K6 K7 K8 hr7 hHeld
          go_wp2_with fail
          go_roundw
          case rel => exact ⟨k + 1, by omega, by go_num, _, _, _, _, rfl, HJ8⟩
          case measure => simp [intOf]; omega
        · intro K hK
          go_simp
          refine hK.out _ _ K6 (fun hHeld => ?_)
          clear hK K
          try simp only [Act.put, List.getElem_toArray, List.getElem_cons_succ, List.getElem_cons_zero, List.setIfInBounds_toArray, List.set_cons_zero, List.set_cons_succ]
          refine wpAnyH_ready (rs := [1]) (by kernel_rfl) (by simp) ?_
          refine AllReadyH.cons rfl (fun K hK => ?_) AllReadyH.nil
          go_simp
          refine hK.out _ _ K6 (fun hHeld => ?_)
          clear hK K
          try simp only [Act.put, List.getElem_toArray, List.getElem_cons_succ, List.getElem_cons_zero, List.setIfInBounds_toArray, List.set_cons_zero, List.set_cons_succ]
          refine wpAnyH_ready (rs := [8]) (by kernel_rfl) (by simp) ?_
          refine AllReadyH.cons rfl (fun K hK => ?_) AllReadyH.nil
          refine Lib.wp_append_run _ _ _ _ _ rfl v (.slice (some ⟨wr.heap.size, 0, none⟩) 1 1) rfl rfl _ _ hr7 ?_
          refine hK.out _ _ K7 (fun hHeld => ?_)
          clear hK K
          try simp only [Act.put, List.getElem_toArray, List.getElem_cons_succ, List.getElem_cons_zero, List.setIfInBounds_toArray, List.set_cons_zero, List.set_cons_succ]
          refine wpAnyH_take (i := 9) (v := ?qbvv9) rfl (by kernel_rfl) (by kernel_rfl) (by kernel_rfl) (fun _ _ _ h => h) (Or.inl ⟨by rfl, ?qbhy9⟩) (by assumption) ?qbrest9
          case qbhy9 =>
            intro u hSu
            obtain ⟨s0, s1, s2⟩ := hSu
            go_simp
            try with_reducible rfl
          try simp only [Act.put, List.getElem_toArray, List.getElem_cons_succ, List.getElem_cons_zero, List.setIfInBounds_toArray, List.set_cons_zero, List.set_cons_succ]
          refine wpAnyH_ready (rs := [10]) (by kernel_rfl) (by simp) ?_
          refine AllReadyH.cons rfl (fun K hK => ?_) AllReadyH.nil
          go_simp
          refine hK.out _ _ K8 (fun hHeld => ?_)
          clear hK K
          try simp only [Act.put, List.getElem_toArray, List.getElem_cons_succ, List.getElem_cons_zero, List.setIfInBounds_toArray, List.set_cons_zero, List.set_cons_succ]
          refine wpAnyH_done (by kernel_rfl) ?_ _
          clear K0 K6 K7 K8 hr7 hHeld
          go_wp2_with fail
          go_roundw
          case rel => exact ⟨k + 1, by omega, by go_num, _, _, _, _, rfl, HJ8⟩
          case measure => simp [intOf]; omega
    · obtain rfl : k = ln := by omega
      have hj := J.out
      rw [List.take_of_length_le (by rw [HLM.out]; exact Nat.le_refl _)] at hj
      obtain ⟨a1, c1, hv⟩ := own_form hj.E
      subst hv
      have R := Lib.hid (take_post hj)
      have d0 := hj.Y.lt
      have d1 := hj.Y.frozen 0
      have d2 := hj.Y.frozen 1
      have d3 : wr.cell? ⟨w.heap.size + 2, 0, none⟩ = some (.int .u64 t) := hj.Z.cell 0
      have d4 : wr.cell? ⟨w.heap.size + 1, 0, none⟩ = some (.int .u64 0) := hj.Y.cell 0
      have d5 : wr.cell? ⟨w.heap.size + 1, 1, none⟩ = some (.slice none 0 0) := hj.Y.cell 1
      have hz0 : ((wr.setCell ⟨w.heap.size + 1, 0, none⟩ (.int .u64 t)).setCell ⟨w.heap.size + 1, 1, none⟩ (.slice a1 n c1)).cell? ⟨w.heap.size + 1, 0, none⟩ = some (.int .u64 t) := ((hj.Y.set_ 0 (.int .u64 t)).set_ 1 (.slice a1 n c1)).cell 0
      have hz1 : ((wr.setCell ⟨w.heap.size + 1, 0, none⟩ (.int .u64 t)).setCell ⟨w.heap.size + 1, 1, none⟩ (.slice a1 n c1)).cell? ⟨w.heap.size + 1, 1, none⟩ = some (.slice a1 n c1) := ((hj.Y.set_ 0 (.int .u64 t)).set_ 1 (.slice a1 n c1)).cell 1
      clear J hj
      go_wp2_with fail
      exact bodyPost_ret (v := .tuple #[ckV t a1 n c1, u7]) (by simp [results, Try.results24, go_sem, hz0, hz1]) rfl R.out
end
end Go.Proofs.Ytcpkiepdpmaeoaa.EF
