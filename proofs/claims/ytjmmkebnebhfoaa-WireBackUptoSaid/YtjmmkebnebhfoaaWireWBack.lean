/-
  The law that what is laid is read again, walked.
-/
import Derived.Test.YtjmmkebnebhfoaaWireAwake
import Derived.Test.YtjmmkebnebhfoaaWireApp
set_option linter.unusedSimpArgs false
set_option linter.unusedVariables false
namespace Go.Proofs.Ytjmmkebnebhfoaa.WK
open Go.RowKit WM NR

theorem rdBytes_text (s t : List UInt8) (hs : s.length < 4294967296) (m : Nat) (hm : s.length ≤ m) : rdBytes m 1 (textL s ++ t) = (0, s, t) := by
  have h := rdText_textL s t hs m hm
  unfold rdText at h
  unfold rdBytes
  simp only [Nat.mul_one]
  exact h
theorem capM_nat (k : Nat) (h : k ≤ 4294967295) : capM (k : Int) = k := by unfold capM; omega
theorem owns_eq {w : World} {B : Nat} {e : TypeId} {k n n' : Nat} {v : Value} {xs xs' : List Value} (h : w.ownsRow B e k v n xs) (hn : n = n') (hx : xs = xs') : w.ownsRow B e k v n' xs' := by
  subst hn hx
  exact h
/-- all that is laid -/
def allL (n : Nat) (s : List UInt8) (l : List Nat) : List UInt8 := varL n ++ (textL s ++ (wordL n ++ wordsL l))
set_option maxHeartbeats 1000000 in
theorem WireBack_walk (x : Int) (s : ByteArray) (l : List Nat) (v : Value) (w : World) (hx : 0 ≤ x ∧ x ≤ 4294967295) (hs : s.size ≤ 1048576) (hr : Reads (· < w.heap.size) w v (u32s l)) (hw : ∀ y ∈ l, y < 4294967296) (hl : l.length ≤ 1048576) :
    Calls Try.prog 5 #[.int .u32 x, .string s, v] w fun e w' => e = .returned (.bool true) ∧ Below w.heap.size w w' := by
  obtain ⟨i0, hi, hz0, hz1, hz2⟩ := info_parts infoByte
  obtain ⟨n, rfl⟩ := Int.eq_ofNat_of_zero_le hx.1
  have hn : n < 4294967296 := by omega
  have hsl : s.data.toList.length = s.size := size_list s
  have h1 : rdVar 4294967295 (allL n s.data.toList l) = (0, n, textL s.data.toList ++ (wordL n ++ wordsL l)) := rdVar_varL n _ _ hn (by omega)
  have h2 : rdBytes (capM (s.size : Int)) 1 (textL s.data.toList ++ (wordL n ++ wordsL l)) = (0, s.data.toList, wordL n ++ wordsL l) := by
    rw [capM_nat _ (by omega)]
    exact rdBytes_text _ _ (by omega) _ (by omega)
  have h3 : rdWord (wordL n ++ wordsL l) = (0, n, wordsL l) := rdWord_wordL n _ hn
  have h4 : rdWords (capM (l.length : Int)) (wordsL l) = (0, l, []) := by
    rw [capM_nat _ (by omega)]
    have := rdWords_wordsL l [] (by omega) hw l.length (Nat.le_refl _)
    rwa [List.append_nil] at this
  have hvl := varL_five n hn
  have htl : (textL s.data.toList).length ≤ 1048581 := by
    unfold textL
    have := varL_five (s.data.toList.length % 4294967296) (by omega)
    rw [List.length_append]; omega
  have hwl : (wordsL l).length ≤ 4194309 := by
    unfold wordsL
    have := varL_five (l.length % 4294967296) (by omega)
    rw [List.length_append, manyL_length]; omega
  have CV := Lib.hid (fun u => var_any n u hn)
  have CT := Lib.hid (fun u => text_any s u (by omega))
  have CW := Lib.hid (fun u => word_any n u hn)
  have CM := Lib.hid (fun (u : World) (hu : Below w.heap.size w u) => words_any l v u ((reads_on hr (fun g hg => hg) hu).mono (fun g hg => Nat.lt_of_lt_of_le hg hu.size)) (by omega) hw)
  have HRD := Lib.hid hr
  obtain ⟨a, c, rfl, _, _⟩ := hr.shape
  rw [u32s_len] at *
  have H1 := Lib.hid h1
  have H2 := Lib.hid h2
  have H3 := Lib.hid h3
  have H4 := Lib.hid h4
  have hlz : (l.length : Int) ≤ 1048576 := by omega
  clear h1 h2 h3 h4 hr hw hx hn
  generalize hnz : (n : Int) = nz at *
  have HN := Lib.hid hnz
  clear hnz
  go_enter Try.func5, Try.ntmps5
  go_wp2_with fail
  refine (CV.out _).mono ?_
  rintro e w1 ⟨v1, rfl, o1, b1⟩
  have O1 := Lib.hid o1
  have B1 := Lib.hid b1
  obtain ⟨a1, n1, c1, rfl⟩ := owns_form o1
  clear o1 b1
  go_wp2_with fail
  refine (CT.out _).mono ?_
  rintro e w2 ⟨v2, rfl, o2, b2⟩
  have o1b := owns_below O1.out b2
  have r2 := Reads.of_owns o2
  have B2 := Lib.hid (below_of B1.out b2)
  obtain ⟨a2, n2, c2, rfl⟩ := owns_form o2
  have hm2 : (varL n).length + (u8s (textL s.data.toList)).length ≤ maxLen := by rw [u8s_len]; unfold maxLen; omega
  have hn2 : ((varL n).length + (u8s (textL s.data.toList)).length) * 1 ≤ 140737488355328 := by rw [u8s_len]; omega
  clear o2 b2
  go_wp2_with (at_builtin; refine wpList_append_reads _ rfl _ _ 24 rfl w.heap.size 5 i0 (.int .u8 0) 1 Try.underlying24 hi hz0 hz1 hz2 rfl _ _ _ rfl o1b _ _ (u8s (textL s.data.toList)) rfl r2 (u8s_one _) hm2 hn2 (by have := B2.out.size; omega) ?_)
  intro v3 w3 o3 g3
  have B3 := Lib.hid (B2.out.grown g3 B2.out.size (fun g hg => (o1b.lt g hg).1))
  have O3 : Hid (w3.ownsRow w.heap.size 5 1 v3 (varL n ++ textL s.data.toList).length (u8s (varL n ++ textL s.data.toList))) := by
    show World.ownsRow _ _ _ _ _ _ _
    rw [List.length_append, u8s_append]
    rw [u8s_len] at o3
    exact o3
  obtain ⟨a3, n3, c3, rfl⟩ := owns_form o3
  clear o1b r2 o3 g3 hm2 hn2
  go_wp2_with fail
  refine (CW.out _).mono ?_
  rintro e w4 ⟨v4, rfl, o4, b4⟩
  have o3b := owns_below O3.out b4
  have r4 := Reads.of_owns o4
  have B4 := Lib.hid (below_of B3.out b4)
  obtain ⟨a4, n4, c4, rfl⟩ := owns_form o4
  have hm4 : (varL n ++ textL s.data.toList).length + (u8s (wordL n)).length ≤ maxLen := by rw [u8s_len, List.length_append]; unfold maxLen; simp [wordL]; omega
  have hn4 : ((varL n ++ textL s.data.toList).length + (u8s (wordL n)).length) * 1 ≤ 140737488355328 := by rw [u8s_len, List.length_append]; simp [wordL]; omega
  clear o4 b4
  go_wp2_with (at_builtin; refine wpList_append_reads _ rfl _ _ 24 rfl w.heap.size 5 i0 (.int .u8 0) 1 Try.underlying24 hi hz0 hz1 hz2 rfl _ _ _ rfl o3b _ _ (u8s (wordL n)) rfl r4 (u8s_one _) hm4 hn4 (by have := B4.out.size; omega) ?_)
  intro v5 w5 o5 g5
  have B5 := Lib.hid (B4.out.grown g5 B4.out.size (fun g hg => (o3b.lt g hg).1))
  have O5 : Hid (w5.ownsRow w.heap.size 5 1 v5 (varL n ++ textL s.data.toList ++ wordL n).length (u8s (varL n ++ textL s.data.toList ++ wordL n))) := by
    exact owns_eq o5 (by simp [u8s_len, Nat.add_assoc]) (by simp [u8s_append])
  obtain ⟨a5, n5, c5, rfl⟩ := owns_form o5
  clear o3b r4 o5 g5 hm4 hn4
  go_wp2_with fail
  refine (CM.out _ B5.out).mono ?_
  rintro e w6 ⟨v6, rfl, o6, b6⟩
  have o5b := owns_below O5.out b6
  have r6 := Reads.of_owns o6
  have B6 := Lib.hid (below_of B5.out b6)
  obtain ⟨a6, n6, c6, rfl⟩ := owns_form o6
  have hm6 : (varL n ++ textL s.data.toList ++ wordL n).length + (u8s (wordsL l)).length ≤ maxLen := by rw [u8s_len, List.length_append, List.length_append]; unfold maxLen; simp [wordL]; omega
  have hn6 : ((varL n ++ textL s.data.toList ++ wordL n).length + (u8s (wordsL l)).length) * 1 ≤ 140737488355328 := by rw [u8s_len, List.length_append, List.length_append]; simp [wordL]; omega
  clear o6 b6
  go_wp2_with (at_builtin; refine wpList_append_reads _ rfl _ _ 24 rfl w.heap.size 5 i0 (.int .u8 0) 1 Try.underlying24 hi hz0 hz1 hz2 rfl _ _ _ rfl o5b _ _ (u8s (wordsL l)) rfl r6 (u8s_one _) hm6 hn6 (by have := B6.out.size; omega) ?_)
  intro v7 w7 o7 g7
  have B7 := Lib.hid (B6.out.grown g7 B6.out.size (fun g hg => (o5b.lt g hg).1))
  have o7' : w7.ownsRow w.heap.size 5 1 v7 (allL n s.data.toList l).length (u8s (allL n s.data.toList l)) := by
    have e : allL n s.data.toList l = varL n ++ textL s.data.toList ++ wordL n ++ wordsL l := by simp [allL]
    exact owns_eq o7 (by rw [e]; simp [u8s_len, Nat.add_assoc]) (by rw [e]; simp [u8s_append])
  have hall : (allL n s.data.toList l).length ≤ 140737488351232 := by simp only [allL, List.length_append]; simp [wordL]; omega
  have HALL := Lib.hid hall
  have rd7 : Reads (· < w7.heap.size) w7 v7 (u8s (allL n s.data.toList l)) := (Reads.of_owns o7').there.mono fun g hg => hg.2
  have CN := Lib.hid (new_any _ v7 w7 rd7 (by omega))
  obtain ⟨a7, n7, c7, rfl⟩ := owns_form o7
  clear o5b r6 o7 g7 hm6 hn6 o7' rd7
  go_wp2_with fail
  refine CN.out.mono ?_
  rintro e w8 ⟨p, rfl, hp, hr8, hb8⟩
  have B8 := Lib.hid (below_of B7.out hb8)
  have hp7 : w.heap.size ≤ p := by have := B7.out.size; omega
  have HP := Lib.hid hp7
  have CR := Lib.hid (rVar_st w8 p (allL n s.data.toList l) _ 0 0 n 4294967295 hr8 (by omega) (by have := HALL.out; omega) H1.out)
  clear hr8 hb8 hp hp7 hall
  go_wp2_with fail
  refine CR.out.mono ?_
  rintro e w9 ⟨rfl, g9, r9⟩
  rw [HN.out]
  have B9 := Lib.hid (below_then B8.out g9 HP.out B8.out.size)
  have CR2 := Lib.hid (rText_st w9 p _ _ _ 0 0 (s.size : Int) r9 (by omega) (by simp only [List.length_append]; simp [wordL]; omega) H2.out)
  clear g9 r9
  go_wp2_with fail
  refine CR2.out.mono ?_
  rintro e w10 ⟨rfl, g10, r10⟩
  rw [bs_of]
  have B10 := Lib.hid (below_then B9.out g10 HP.out B9.out.size)
  have CR3 := Lib.hid (rWord_st w10 p _ _ 0 0 n r10 (by simp only [List.length_append]; simp [wordL]; omega) H3.out)
  clear g10 r10
  go_wp2_with fail
  refine CR3.out.mono ?_
  rintro e w11 ⟨rfl, g11, r11⟩
  rw [HN.out]
  have B11 := Lib.hid (below_then B10.out g11 HP.out B10.out.size)
  have CR4 := Lib.hid (rWords_st w11 p _ _ _ 0 0 (l.length : Int) r11 (by omega) (by omega) H4.out)
  clear g11 r11
  go_wp2_with fail
  refine CR4.out.mono ?_
  rintro e w12 ⟨v12, rfl, o12, g12, r12⟩
  have B12 := Lib.hid (below_then B11.out g12 HP.out B11.out.size)
  have o12' : w12.ownsRow w11.heap.size 22 1 v12 l.length (u32s l) := o12
  have r12' : Rd w12 p [] 0 := r12
  have RM : Hid (Reads (· < w12.heap.size) w12 v12 (u32s l)) := (Reads.of_owns o12').there.mono fun g hg => hg.2
  have RL := Lib.hid (reads_on HRD.out (fun g hg => hg) B12.out)
  obtain ⟨a12, c12, rfl, _, _⟩ := RM.out.shape
  rw [u32s_len] at *
  have R12 := Lib.hid r12'
  clear o12 o12' r12 r12' g12 CV CT CW CM CR CR2 CR3 CR4 HRD H1 H2 H3 H4 CN O1 O3 O5 hvl htl hwl
  generalize hNN : l.length = N at *
  have HNN := Lib.hid hNN
  clear hNN
  go_wp2_with fail
  go_loopw [10] (fun i wr => ∃ k : Nat, k ≤ N ∧ i = .int .i64 (k : Int) ∧ Below w12.heap.size w12 wr) (fun i _ => N - (intOf i).toNat)
  case atStart => exact ⟨0, by omega, rfl, Below.refl _ _⟩
  case round =>
    obtain ⟨k, hk, rfl, hb⟩ := hrel
    by_cases hlt : k < N
    · have hlt' : (k : Int) < N := by omega
      have hkn : ¬ N ≤ k := by omega
      have hkl : k < l.length := by rw [HNN.out]; exact hlt
      have hne : u32s l ≠ [] := by
        intro h
        have := congrArg List.length h
        rw [u32s_len] at this
        simp at this
        subst this
        simp at hkl
      obtain ⟨g1, f1, c1', hv1, _, _, _, hc1⟩ := (reads_on RM.out (fun g hg => hg) hb).cells hne
      obtain ⟨g2, f2, c2', hv2, _, _, _, hc2⟩ := (reads_on RL.out (fun g hg => Nat.lt_of_lt_of_le hg B12.out.size) hb).cells hne
      simp only [Value.slice.injEq, true_and, u32s_len] at hv1 hv2
      obtain ⟨rfl, hv1', rfl⟩ := hv1
      obtain ⟨rfl, hv2', rfl⟩ := hv2
      have hk1 := hc1 k (by rw [u32s_len]; exact hkl)
      have hk2 := hc2 k (by rw [u32s_len]; exact hkl)
      rw [u32s_at l k hkl] at hk1 hk2
      generalize l[k] = x at *
      have hdk : decide (N ≤ k) = false := by simp; omega
      clear hc1 hc2 hv1' hv2' hkn hne hkl
      go_wp2_with fail
      go_quiet (fail)
      go_wp2_with fail
      go_roundw
      case rel => exact ⟨k + 1, by omega, by go_num, below_drewN hb _⟩
      case measure => simp [intOf]; omega
    · have hkn : ¬ (k : Int) < N := by omega
      have CL := Lib.hid (rleft_good wr p [] (R12.out.keep hb))
      have CE := Lib.hid (fun (u : World) (hu : Below w12.heap.size w12 u) => err_any u p [] 0 (R12.out.keep hu))
      have CA := Lib.hid awakeS
      have HBR := Lib.hid hb
      clear hb
      go_wp2_with fail
      refine CL.out.mono ?_
      rintro e w13 ⟨rfl, hb13⟩
      have HB13 := Lib.hid (below_of HBR.out hb13)
      clear hb13
      go_wp2_with fail
      refine (CE.out _ HB13.out).mono ?_
      rintro e w14 ⟨rfl, rfl⟩
      go_wp2_with fail
      refine (CA.out _).mono ?_
      rintro e w15 ⟨rfl, hb15⟩
      have HB15 := Lib.hid (below_of HB13.out hb15)
      clear hb15
      go_wp2_with fail
      go_ret
      exact ⟨rfl, below_of B12.out HB15.out⟩
end Go.Proofs.Ytjmmkebnebhfoaa.WK
