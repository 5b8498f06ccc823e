/-
  The program's Passed, owners and the closure of what is due. Nothing here is a statement of the seed.
-/
import Derived.Test.YtcpkiepdpmaeoaaEpPB
import Derived.Test.YtcpkiepdpmaeoaaSrch
import Derived.Deep.RegionHeld3
import Derived.Deep.CutRange
set_option linter.unusedSimpArgs false
set_option linter.unusedVariables false
namespace Go.Proofs.Ytcpkiepdpmaeoaa.EP
open Go.RowKit WM NR OM OR EM ER EF
set_option maxHeartbeats 4000000
set_option maxRecDepth 10000
theorem lst_nonneg : ∀ (hs : List Hr) (q : Int × Bool), 0 ≤ q.1 → (∀ h ∈ hs, 0 ≤ h.ep) → 0 ≤ (lstF q hs).1
  | [], q, hq, _ => hq
  | h :: hs, q, hq, hh => by
    show 0 ≤ (lstF (lstS q h) hs).1
    refine lst_nonneg hs _ ?_ (fun x hx => hh x (List.mem_cons_of_mem _ hx))
    unfold lstS
    split
    · exact hh h (List.mem_cons_self ..)
    · exact hq
theorem pas_lst0 (hs : List Hr) (hh : ∀ h ∈ hs, 0 ≤ h.ep) (e : Int) (he : 0 ≤ e) : pasB hs e = !((lstM hs).2 && decide ((lstM hs).1 < e)) := by
  by_cases h0 : 0 < e
  · exact pas_lst hs e h0
  · obtain rfl : e = 0 := by omega
    have h1 : ¬ (lstM hs).1 < 0 := by have := lst_nonneg hs (0, false) (Int.le_refl 0) hh; unfold lstM; omega
    have h2 : pasB hs 0 = true := by
      unfold pasB
      rw [List.all_eq_true]
      intro x hx
      have h3 : ¬ x.ep < 0 := by have := hh x hx; omega
      simp [behB, h3]
    rw [h2]
    simp [h1]
theorem ReadsH.eps {G : Nat → Prop} {w : World} {v : Value} {l : List Hr} (h : ReadsH G w v l) : ∀ x ∈ l, 0 ≤ x.ep := by
  obtain ⟨a, cap, e, _, _, _, h5⟩ := h
  exact fun x hx => (h5 x hx).ep.1
theorem passed_any {w : World} {a : Option Addr} {n c : Nat} {hs : List Hr} (h : ReadsH (· < w.heap.size) w (.slice a n c) hs) (t : Int) (ht : 0 ≤ t ∧ t ≤ 18446744073709551615) :
    Calls Try.prog 14 #[.slice a n c, .int .u64 t] w fun e u => e = .returned (.bool (pasB hs t)) ∧ Below w.heap.size w u := by
  rw [pas_lst0 hs (ReadsH.eps h) t ht.1]
  have CL := Lib.hid (least_any h)
  obtain ⟨q, hq⟩ : ∃ q, lstM hs = q := ⟨_, rfl⟩
  rw [hq] at CL ⊢
  obtain ⟨L, C⟩ := q
  simp only at CL ⊢
  clear h hq
  cases C with
  | false =>
    go_enter Try.func14, Try.ntmps14
    go_wp2_with (go_at_call 12; (with_reducible refine CL.out.mono ?_); rintro e w1 ⟨rfl, hb⟩; have HB := Lib.hid hb; clear hb)
    go_ret
    exact ⟨rfl, HB.out⟩
  | true =>
    by_cases h1 : L < t
    · have h2 : decide (L < t) = true := by simpa using h1
      rw [h2]
      go_enter Try.func14, Try.ntmps14
      go_wp2_with (go_at_call 12; (with_reducible refine CL.out.mono ?_); rintro e w1 ⟨rfl, hb⟩; have HB := Lib.hid hb; clear hb)
      go_ret
      exact ⟨by first | (simp; done) | (simp; omega), HB.out⟩
    · have h2 : decide (L < t) = false := by simpa using h1
      rw [h2]
      go_enter Try.func14, Try.ntmps14
      go_wp2_with (go_at_call 12; (with_reducible refine CL.out.mono ?_); rintro e w1 ⟨rfl, hb⟩; have HB := Lib.hid hb; clear hb)
      go_ret
      exact ⟨by first | (simp; done) | (simp; omega), HB.out⟩
/-- who waits -/
theorem owners_any {w : World} {a : Option Addr} {n k : Nat} {l : List Wt} {G : Nat → Prop} (h : ReadsW G w (.slice a n k) l) (hG : ∀ g, G g → g < w.heap.size) (hn : n ≤ 1000) :
    Calls Try.prog 27 #[.slice a n k] w fun e u => ∃ q, e = .returned q ∧ IsOw w.heap.size u q (l.map Wt.ow) ∧ Below w.heap.size w u := by
  obtain ⟨n1, m1, m2⟩ := h.len
  unfold maxLen at m2
  have hn1 : (n : Int) ≤ 9223372036854775807 := by omega
  have q2 : (n : Int) ≤ k := by omega
  have HT := Lib.hid h
  have HG := Lib.hid hG
  have HL := Lib.hid n1
  clear h hG n1 m1 m2
  go_enter Try.func27, Try.ntmps27
  go_wp2_with fail
  go_loopw [3, 8] (fun v3 i wr => ∃ j : Nat, j ≤ n ∧ i = .int .i64 (j : Int) ∧ ∃ q, v3 = q ∧ Hid (wr.ownsRow w.heap.size 32 1 q j (oC ((l.take j).map Wt.ow)) ∧ Below w.heap.size w wr)) (fun _ i _ => n - (intOf i).toNat)
  case atStart => exact ⟨0, by omega, rfl, _, rfl, Lib.hid ⟨owns_nil _ _ _ _, Below.refl _ _⟩⟩
  case round =>
    obtain ⟨j, hj, rfl, q, rfl, J⟩ := hrel
    by_cases hlt : j < n
    · have hlt' : (j : Int) < n := by omega
      have jl : j < l.length := by rw [HL.out]; exact hlt
      obtain ⟨g, off, hla, _, _, e1, e2⟩ := HT.out.atG (u := wr) (fun g hg _ => J.out.2.block g (HG.out g hg)) hlt
      have HTK := Lib.hid (take_succ' (d := EM.w0) l j jl)
      generalize l.getD j EM.w0 = y at *
      subst hla
      have HZ := Lib.hid (Whole.new wr 52 #[.int .u16 y.ow, .int .u64 y.ep])
      have bz := Lib.hid (below_new wr (.cells #[.int .u16 y.ow, .int .u64 y.ep] 52))
      have x0 := (two_at HZ.out).1
      have x6 := HZ.out.lt
      clear jl
      go_upto_region 5 with fail
      have HO : Hid ((wr.alloc (.cells #[.int .u16 y.ow, .int .u64 y.ep] 52)).ownsRow w.heap.size 32 1 u3 j (oC ((l.take j).map Wt.ow))) := Lib.hid (J.out.1.alloc _)
      have HB := Lib.hid (J.out.2.trans (bz.out.mono J.out.2.size))
      clear e1 e2 HZ bz J
      generalize wr.alloc (.cells #[.int .u16 y.ow, .int .u64 y.ep] 52) = W1 at *
      obtain ⟨i0, hi, hz0, hz1, hz2⟩ := info_split infoU16
      go_wp2_with (at_builtin; refine wpList_append_own _ rfl _ _ 45 rfl w.heap.size 32 i0 (.int .u16 0) 1 2 Try.underlying45 hi hz0 hz1 hz2 rfl (by decide) _ _ _ rfl (HO.out.alloc _) ⟨W1.heap.size, 0, none⟩ 1 1 [.int .u16 y.ow] rfl rfl ?c1 ?c2 (by unfold maxLen; omega) (by omega) ?c5 ?_)
      case c1 => exact oneC _ _ _
      case c2 => intro u hu; simp at hu; subst hu; rfl
      case c5 => have := HB.out.size; simp; omega
      intro v' w4 hown4 hgrow _
      have J4 : Hid (w4.ownsRow w.heap.size 32 1 v' (j + 1) (oC ((l.take (j + 1)).map Wt.ow)) ∧ Below w.heap.size w w4) := Lib.hid ⟨by rw [HTK.out, List.map_append, oC_append, List.map_take]; exact hown4, below_grown (HB.out.trans ((below_new W1 _).mono HB.out.size)) (by have := HB.out.size; simp; omega) (HO.out.alloc _) (Nat.le_refl _) hgrow⟩
      clear hown4 hgrow HB HO x0 x6
      go_wp2_with fail
      go_roundw
      case rel => exact ⟨j + 1, by omega, by go_num, _, rfl, J4⟩
      case measure => simp [intOf]; omega
    · obtain rfl : j = n := by omega
      have hJ := J.out
      rw [List.take_of_length_le (by rw [HL.out]; exact Nat.le_refl _)] at hJ
      have R := Lib.hid hJ
      clear J hJ
      go_wp2_with fail
      go_ret
      exact ⟨_, rfl, Reads.mono (IsOw.of_owns R.out.1) (fun g hg => ⟨by have := hg.1; omega, hg.2⟩), R.out.2⟩
end Go.Proofs.Ytcpkiepdpmaeoaa.EP
