/-
  Lists laid, as the program lays them; rows of bytes put together. Nothing here is a statement of the seed.
-/
import Derived.Test.YtdlinlkdielmkaaObjPut
import Derived.Lib.AppendZerosOnto
set_option linter.unusedSimpArgs false
set_option linter.unusedVariables false
namespace Go.Proofs.Ytdlinlkdielmkaa.OR
open Go.RowKit WM NR OM
set_option maxHeartbeats 4000000
set_option maxRecDepth 10000
theorem putReloc_any (kd at_ wh : Nat) (h : kd < 256 ∧ at_ < 65536 ∧ wh < 65536) (w : World) :
    Calls Try.prog 26 #[.agg #[.int .u8 (kd : Int), .int .u16 (at_ : Int), .int .u16 (wh : Int)]] w (IsBytes w.heap.size (relL ⟨kd, at_, wh⟩) w) := by
  obtain ⟨hkd, hat, hwh⟩ := h
  have CA := Lib.hid (fun (u : World) => var_int (at_ : Int) u (by omega))
  have CW := Lib.hid (fun (u : World) => var_int (wh : Int) u (by omega))
  rw [show ((at_ : Int)).toNat = at_ by omega] at CA
  rw [show ((wh : Int)).toNat = wh by omega] at CW
  have la := varL_five at_ (by omega)
  have lw := varL_five wh (by omega)
  have na := varL_ne at_
  have nw := varL_ne wh
  have hB1 := Lib.hid (byte_one hkd)
  have HE := Lib.hid (show relL ⟨kd, at_, wh⟩ = [UInt8.ofNat kd] ++ varL at_ ++ varL wh by simp [relL])
  have hwa : IntKind.u32.wrap (at_ : Int) = (at_ : Int) := by rw [IntKind.wrap_u32]; omega
  have hww : IntKind.u32.wrap (wh : Int) = (wh : Int) := by rw [IntKind.wrap_u32]; omega
  have hatI : (at_ : Int) ≤ 65535 := by omega
  have hwhI : (wh : Int) ≤ 65535 := by omega
  have hat0 : (0 : Int) ≤ (at_ : Int) := by omega
  have hwh0 : (0 : Int) ≤ (wh : Int) := by omega
  have X1 := Lib.hid (Whole.new w 48 #[.int .u8 (kd : Int), .int .u16 (at_ : Int), .int .u16 (wh : Int)])
  have HB0 := Lib.hid (below_new w (.cells #[.int .u8 (kd : Int), .int .u16 (at_ : Int), .int .u16 (wh : Int)] 48))
  generalize (kd : Int) = kdI at *
  generalize (at_ : Int) = atI at *
  generalize (wh : Int) = whI at *
  go_enter Try.func26, Try.ntmps26
  go_upto_region 1 with fail
  have hsz := HB0.out.size
  have q0 := X1.out.lt
  obtain ⟨r0, r1, r2⟩ := rel_cells X1.out
  generalize w.alloc (.cells #[.int .u8 kdI, .int .u16 atI, .int .u16 whI] 48) = W1 at *
  go_upto_region 2 with fail
  have J2 : PJ W1 (.slice (some ⟨W1.heap.size, 0, none⟩) 1 1) [UInt8.ofNat kd] (W1.alloc (.cells #[.int .u8 kdI] 5)) := ⟨by
    have hown := World.ownsRow_lit (e := 5) (base := W1.heap.size) (size := 1) W1 #[.int .u8 kdI] 1 (Nat.le_refl _) (by simp [maxLen]) rfl
    rw [hB1.out]
    exact hown, below_new W1 _⟩
  have X2 := X1.out.alloc (.cells #[.int .u8 kdI] 5)
  have J2h := Lib.hid J2
  have X2h := Lib.hid X2
  obtain ⟨p0, p1, p2⟩ := rel_cells X2
  have q2 := X2.lt
  clear J2 X2 r0 r1 r2
  generalize W1.alloc (.cells #[.int .u8 kdI] 5) = W2 at *
  generalize (Value.slice (some ⟨W1.heap.size, 0, none⟩) 1 1) = v2 at *
  go_upto_region 3 with (first | (go_at_call 55; (with_reducible refine (CA.out _).mono ?_); rintro e u15 ⟨y15, rfl, own, hb⟩; obtain ⟨g15, p15, rfl, ce⟩ := owns_give own na; have K15 := J2h.out.belowS hb; clear own hb) | (at_builtin; refine wl_app rfl rfl rfl rfl K15 rfl ce (by simp; omega) (fun y16 u16 K16 => ?_)))
  obtain ⟨s0, s1, s2⟩ := rel_cells (X1.out.below K16.B q0)
  have q3 := (X1.out.below K16.B q0).lt
  have K16h := Lib.hid K16
  have hl : ([UInt8.ofNat kd] ++ varL at_).length ≤ 6 := by rw [List.length_append]; simp; omega
  clear p0 p1 p2 K15 K16 ce J2h X2h CA
  generalize [UInt8.ofNat kd] ++ varL at_ = L2 at *
  go_wp2_with (first | (go_at_call 55; (with_reducible refine (CW.out _).mono ?_); rintro e u17 ⟨y17, rfl, own, hb⟩; obtain ⟨g17, p17, rfl, ce⟩ := owns_give own nw; have K17 := K16h.out.belowS hb; clear own hb s0 s1 s2) | (at_builtin; refine wl_app rfl rfl rfl rfl K17 rfl ce (by omega) (fun y18 u18 K18 => ?_)))
  go_ret
  refine ⟨_, rfl, ?_, HB0.out.trans (K18.B.mono hsz)⟩
  rw [HE.out]
  exact owns_base K18.own hsz
theorem putTexts_any {w : World} {a : Option Addr} {n c : Nat} {l : List (List UInt8)} (h1 : Reads (· < w.heap.size) w (.slice a n c) (strs l)) (hn : n ≤ 16) (h96 : ∀ s ∈ l, s.length ≤ 96) :
    Calls Try.prog 23 #[.slice a n c, .func (.func 22) #[] #[]] w (IsBytes w.heap.size (textsL l) w) := by
  obtain ⟨i0, hi, hz0, hz1, hz2⟩ := info_parts infoByte
  obtain ⟨n1, m1, m2⟩ := reads_len h1
  rw [strs_len] at n1
  have hnI : (n : Int) ≤ 16 := by omega
  have C := Lib.hid (var_int (n : Int) w (by omega))
  have L5 := varL_five n (by omega)
  have EL := Lib.hid (show textsL l = varL n ++ textsB l by unfold textsL; rw [n1, Nat.mod_eq_of_lt (by omega)])
  have e0 : Hid ((n : Int).toNat = n) := by show _ = _; omega
  generalize hL : varL n = L at *
  have HL := Lib.hid hL
  clear hL
  have HA := Lib.hid h1
  have HN := Lib.hid n1
  have H96 := Lib.hid h96
  clear h1 n1 m1 m2 h96
  go_enter Try.func23, Try.ntmps23
  go_wp2_with (go_at_call 55; (with_reducible refine C.out.mono ?_); rintro e w1 ⟨v1, rfl, hown1, hb1⟩)
  rw [e0.out, HL.out] at hown1
  go_loopw [5, 14] (fun s i wr => ∃ (k : Nat) (q : Value), k ≤ n ∧ i = .int .i64 (k : Int) ∧ q = s ∧ Hid (wr.ownsRow w.heap.size 5 1 q (L ++ textsB (l.take k)).length (u8s (L ++ textsB (l.take k)))) ∧ Below w.heap.size w wr) (fun _ i _ => n - (intOf i).toNat)
  case atStart => exact ⟨0, _, by omega, rfl, rfl, Lib.hid (by simpa [textsB] using hown1), hb1⟩
  case round =>
    obtain ⟨k, q, hk, rfl, rfl, hown, hb⟩ := hrel
    have hbs := hb.size
    by_cases hlt : k < n
    · have hlt' : (k : Int) < n := by omega
      have hkl : k < l.length := by rw [HN.out]; exact hlt
      obtain ⟨g, off, rfl, q1, c1⟩ := reads_at HA.out hb hlt
      rw [strs_at hkl] at c1
      have h96k : (l.getD k []).length ≤ 96 := H96.out _ (by have e : l.getD k [] = l[k] := by simp [hkl]
                                                             rw [e]; exact List.getElem_mem hkl)
      have ht := textL_len h96k
      have HB' := Lib.hid (textsB_len (l.take k) (fun s hs => H96.out s (List.mem_of_mem_take hs)))
      have HS := Lib.hid (textsB_take hkl)
      have hne := textL_ne (l.getD k [])
      have CW := Lib.hid (text_any (bs (l.getD k [])) wr (by rw [bs_size]; omega))
      rw [bs_list] at CW
      generalize hT : textL (l.getD k []) = T at *
      clear hT
      generalize bs (l.getD k []) = x at *
      have HTk := Lib.hid (show (l.take k).length = k by rw [List.length_take]; omega)
      have hlen : (L ++ textsB (l.take k)).length ≤ 1700 := by have := HB'.out; rw [HTk.out] at this; rw [List.length_append]; omega
      have HW := Lib.hid hown.out
      clear hown HB' h96k
      generalize hX : L ++ textsB (l.take k) = X at *
      have HX := Lib.hid hX
      clear hX
      go_wp2_with (first | (go_at_call 22; (with_reducible refine CW.out.mono ?_); rintro e w2 ⟨v2, rfl, hown2, hb2⟩; obtain ⟨g2, cap2, rfl, hcells⟩ := owns_give hown2 hne; have hown3 := owns_below HW.out hb2; have hbb := hb2.size; have hnm : X.length + T.length ≤ maxLen := (by unfold maxLen; omega); have hnb : (X.length + T.length) * 1 ≤ 140737488355328 := (by omega)) | (at_builtin; refine wpList_append_own _ rfl _ _ 30 rfl w.heap.size 5 i0 (.int .u8 0) 1 1 Try.underlying30 hi hz0 hz1 hz2 rfl (by decide) _ _ _ rfl hown3 ⟨g2, 0, none⟩ T.length cap2 (u8s T) rfl (by rw [u8s_len]; omega) hcells (u8s_one _) hnm hnb (by omega) ?_; intro v' w3 hown4 hgrow _))
      go_roundw
      case rel =>
        refine ⟨k + 1, _, by omega, by go_num, rfl, Lib.hid ?_, (below_of hb hb2).grown hgrow (by omega) (fun g hg => (hown3.lt g hg).1)⟩
        rw [HS.out, ← List.append_assoc, HX.out, u8s_append, List.length_append]
        exact hown4
      case measure => simp [intOf]; omega
    · obtain rfl : k = n := by omega
      have e : textsL l = L ++ textsB (l.take k) := by rw [EL.out, List.take_of_length_le (by rw [HN.out]; omega)]
      have HE := Lib.hid e
      clear e
      go_wp2_with fail
      go_ret
      refine ⟨_, rfl, ?_, hb⟩
      rw [HE.out]
      exact hown.out
theorem putRels_any {w : World} {a : Option Addr} {n c : Nat} {l : List Rl} (h1 : ReadsR (· < w.heap.size) w (.slice a n c) l) (hn : n ≤ 256) (hf : ∀ r ∈ l, r.kind < 256 ∧ r.at_ < 65536 ∧ r.wh < 65536) :
    Calls Try.prog 25 #[.slice a n c, .func (.func 26) #[] #[]] w (IsBytes w.heap.size (relsL l) w) := by
  obtain ⟨i0, hi, hz0, hz1, hz2⟩ := info_parts infoByte
  obtain ⟨n1, m1, m2⟩ := h1.len
  have hnI : (n : Int) ≤ 256 := by omega
  have hnc : (n : Int) ≤ c := by omega
  have C := Lib.hid (var_int (n : Int) w (by omega))
  have L5 := varL_five n (by omega)
  have EL := Lib.hid (show relsL l = varL n ++ relsB l by unfold relsL; rw [n1, Nat.mod_eq_of_lt (by omega)])
  have e0 : Hid ((n : Int).toNat = n) := by show _ = _; omega
  generalize hL : varL n = L at *
  have HL := Lib.hid hL
  clear hL
  have HA := Lib.hid h1
  have HN := Lib.hid n1
  have HF := Lib.hid hf
  clear h1 n1 m1 m2 hf
  go_enter Try.func25, Try.ntmps25
  go_wp2_with (go_at_call 55; (with_reducible refine C.out.mono ?_); rintro e w1 ⟨v1, rfl, hown1, hb1⟩)
  rw [e0.out, HL.out] at hown1
  go_loopw [5, 14] (fun s i wr => ∃ (k : Nat) (q : Value), k ≤ n ∧ i = .int .i64 (k : Int) ∧ q = s ∧ Hid (wr.ownsRow w.heap.size 5 1 q (L ++ relsB (l.take k)).length (u8s (L ++ relsB (l.take k)))) ∧ Below w.heap.size w wr) (fun _ i _ => n - (intOf i).toNat)
  case atStart => exact ⟨0, _, by omega, rfl, rfl, Lib.hid (by simpa [relsB] using hown1), hb1⟩
  case round =>
    obtain ⟨k, q, hk, rfl, rfl, hown, hb⟩ := hrel
    have hbs := hb.size
    by_cases hlt : k < n
    · have hlt' : (k : Int) < n := by omega
      have hkl : k < l.length := by rw [HN.out]; exact hlt
      obtain ⟨g, off, rfl, q1, c0, c1, c2⟩ := HA.out.at hb hlt
      have heq : l.getD k ⟨0, 0, 0⟩ = l[k] := by simp [hkl]
      have hr3 := HF.out (l.getD k ⟨0, 0, 0⟩) (by rw [heq]; exact List.getElem_mem hkl)
      clear heq
      have ht := relL_len hr3
      have HB' := Lib.hid (relsB_len (l.take k) (fun s hs => HF.out s (List.mem_of_mem_take hs)))
      have HS := Lib.hid (relsB_take hkl)
      have hne : relL (l.getD k ⟨0, 0, 0⟩) ≠ [] := by simp [relL]
      generalize l.getD k ⟨0, 0, 0⟩ = r at *
      obtain ⟨kd, at_, wh⟩ := r
      simp only at hr3 c0 c1 c2
      have CW := Lib.hid (fun (u : World) => putReloc_any kd at_ wh hr3 u)
      generalize hT : relL ⟨kd, at_, wh⟩ = T at *
      clear hT hr3
      generalize (kd : Int) = kdI at *
      generalize (at_ : Int) = atI at *
      generalize (wh : Int) = whI at *
      have HTk := Lib.hid (show (l.take k).length = k by rw [List.length_take]; omega)
      have hlen : (L ++ relsB (l.take k)).length ≤ 2900 := by have := HB'.out; rw [HTk.out] at this; rw [List.length_append]; omega
      have HW := Lib.hid hown.out
      clear hown HB'
      generalize hX : L ++ relsB (l.take k) = X at *
      have HX := Lib.hid hX
      clear hX
      have hb3 := Lib.hid (below_of hb (below_new wr (.cells #[.int .u8 kdI, .int .u16 atI, .int .u16 whI] 48)))
      go_upto_region 5 with fail
      have X5 := Whole.new wr 48 #[.int .u8 kdI, .int .u16 atI, .int .u16 whI]
      obtain ⟨p0, p1, p2⟩ := rel_cells X5
      have q5 := X5.lt
      have HW5 := Lib.hid (owns_below HW.out (below_new wr (.cells #[.int .u8 kdI, .int .u16 atI, .int .u16 whI] 48)))
      have hs5 : w.heap.size ≤ (wr.alloc (.cells #[.int .u8 kdI, .int .u16 atI, .int .u16 whI] 48)).heap.size := hb3.out.size
      clear X5 HW c0 c1 c2
      generalize wr.alloc (.cells #[.int .u8 kdI, .int .u16 atI, .int .u16 whI] 48) = W5 at *
      generalize wr.heap.size = bp at *
      go_wp2_with (first | (go_at_call 26; (with_reducible refine (CW.out _).mono ?_); rintro e w2 ⟨v2, rfl, hown2, hb2⟩; obtain ⟨g2, cap2, rfl, hcells⟩ := owns_give hown2 hne; have hown3 := owns_below HW5.out hb2; have hbb := hb2.size; have hnm : X.length + T.length ≤ maxLen := (by unfold maxLen; omega); have hnb : (X.length + T.length) * 1 ≤ 140737488355328 := (by omega)) | (at_builtin; refine wpList_append_own _ rfl _ _ 30 rfl w.heap.size 5 i0 (.int .u8 0) 1 1 Try.underlying30 hi hz0 hz1 hz2 rfl (by decide) _ _ _ rfl hown3 ⟨g2, 0, none⟩ T.length cap2 (u8s T) rfl (by rw [u8s_len]; omega) hcells (u8s_one _) hnm hnb (by omega) ?_; intro v' w3 hown4 hgrow _))
      go_roundw
      case rel =>
        refine ⟨k + 1, _, by omega, by go_num, rfl, Lib.hid ?_, (below_of hb3.out hb2).grown hgrow (by omega) (fun g hg => (hown3.lt g hg).1)⟩
        rw [HS.out, ← List.append_assoc, HX.out, u8s_append, List.length_append]
        exact hown4
      case measure => simp [intOf]; omega
    · obtain rfl : k = n := by omega
      have e : relsL l = L ++ relsB (l.take k) := by rw [EL.out, List.take_of_length_le (by rw [HN.out]; omega)]
      have HE := Lib.hid e
      clear e
      go_wp2_with fail
      go_ret
      refine ⟨_, rfl, ?_, hb⟩
      rw [HE.out]
      exact hown.out
theorem grow_any (n : Nat) (w : World) (h0 : 0 < n) (hn : n ≤ 1000000) :
    Calls Try.prog 54 #[.slice none 0 0, .int .i64 (n : Int)] w fun e w' => ∃ v, e = .returned v ∧ w'.ownsRow w.heap.size 5 1 v 0 [] ∧ Below w.heap.size w w' := by
  obtain ⟨i0, hi, hz0, hz1, hz2⟩ := info_parts infoByte
  have hn1 : (0 : Int) < n := by omega
  have hn2 : (n : Int) ≤ 1000000 := by omega
  have hold : (Builtin.firstCells i0.size 0 (.slice none 0 0)).run Try.prog w.drew = .ok ([] : List Value).toArray w.drew := run_firstCells_none w.drew i0.size 0 0 0
  have hr := fun (ty : TypeId) => Lib.run_append_grow_zeros (P := Try.prog) w 30 3 ty 5 i0 (.int .u8 0) .i64 .i64 Try.underlying30 Try.underlying3 hi hz0 none 0 0 [] hold n h0 (by omega) (by omega) (by omega) (by rw [hz2]; omega) (by rw [hz2]; exact growslice_fits (need := 0 + n) (old := 0) (bytes := 1) (by omega) (by omega))
  have hcap := grownCap_ge w (0 + n) 0 5
  have hcm := grownCap_le_maxLen w (0 + n) 0 5 (by unfold maxLen; omega)
  generalize grownCap w (0 + n) 0 5 = cap at *
  generalize hT : (([] : List Value).toArray ++ Builtin.zeroCells (Value.int .u8 0).cells n ++ Builtin.zeroCells (Value.int .u8 0).cells (cap - (0 + n))) = cs at *
  have hcs : cs.size = cap := by
    rw [← hT]
    have e1 : (Value.int .u8 0).cells.size = 1 := rfl
    rw [Array.size_append, Array.size_append, size_zeroCells, size_zeroCells, e1]
    simp
    omega
  have HC := Lib.hid hcs
  have HM := Lib.hid hcm
  rw [Nat.zero_add] at hr
  have hcap0 : (0 : Int) ≤ cap := by omega
  have hcapm : (cap : Int) ≤ 9223372036854775807 := by unfold maxLen at hcm; omega
  clear hold hT hcs hcm hcap h0 hn
  go_enter Try.func54, Try.ntmps54
  go_wp2_with (at_builtin; refine Lib.wpList_append_run _ rfl _ _ _ _ rfl _ _ rfl rfl _ _ (hr _) ?_)
  go_ret
  exact ⟨_, rfl, ⟨by simp, Or.inr ⟨w.heap.size, cap, cs, rfl, Nat.le_refl _, heap_alloc_new w.drew _, Nat.zero_le _, HM.out, by rw [HC.out]; omega, by simp⟩⟩, ((Below.refl w.heap.size w).drew).alloc (Nat.le_refl _) _⟩
/-! rows put together -/
def catP (L : List (Value × List UInt8)) : List UInt8 := L.flatMap (·.2)
theorem catP_take {L : List (Value × List UInt8)} {k : Nat} (hk : k < L.length) : catP (L.take (k + 1)) = catP (L.take k) ++ (L.getD k (undef, [])).2 := by
  unfold catP
  rw [List.take_add_one, List.flatMap_append]
  simp [hk]
theorem catP_take_le {L : List (Value × List UInt8)} (k : Nat) : (catP (L.take k)).length ≤ (catP L).length := by
  have e : catP L = catP (L.take k) ++ catP (L.drop k) := by unfold catP; rw [← List.flatMap_append, List.take_append_drop]
  rw [e, List.length_append]
  omega
theorem concat_any {w : World} {a : Option Addr} {n c : Nat} {L : List (Value × List UInt8)} (h1 : Reads (· < w.heap.size) w (.slice a n c) (L.map (·.1))) (hL : ∀ p ∈ L, Reads (· < w.heap.size) w p.1 (u8s p.2)) (hs : (catP L).length ≤ 1000000) (h0 : 0 < (catP L).length) :
    Calls Try.prog 21 #[.slice a n c] w (IsBytes w.heap.size (catP L) w) := by
  obtain ⟨i0, hi, hz0, hz1, hz2⟩ := info_parts infoByte
  obtain ⟨n1, m1, m2⟩ := reads_len h1
  rw [List.length_map] at n1
  unfold maxLen at m2
  have hnI : (n : Int) ≤ 9223372036854775807 := by omega
  have HA := Lib.hid h1
  have HN := Lib.hid n1
  have HL := Lib.hid hL
  have HS := Lib.hid hs
  have CG := Lib.hid (fun (u : World) => grow_any (catP L).length u h0 hs)
  obtain ⟨T, hT⟩ : ∃ T : Int, T = ((catP L).length : Int) := ⟨_, rfl⟩
  rw [← hT] at CG
  have HT0 := Lib.hid hT
  have hT0 : (0 : Int) ≤ T := by omega
  clear hT
  have hat : Hid (∀ k, k < n → ∃ (p : Option Addr) (q d : Nat), (L.map (·.1))[k]? = some (.slice p q d) ∧ (L.getD k (undef, [])).2.length = q ∧ Reads (· < w.heap.size) w (.slice p q d) (u8s (L.getD k (undef, [])).2)) := fun k hk => by
    have hkl : k < L.length := by omega
    have hr := hL L[k] (List.getElem_mem hkl)
    have e : L.getD k (undef, []) = L[k] := by simp [hkl]
    obtain ⟨p, d, e1, _⟩ := hr.shape
    refine ⟨p, (u8s L[k].2).length, d, by simp [hkl, e1], ?_, ?_⟩
    · rw [e, u8s_len]
    · rw [e, ← e1]; exact hr
  clear h1 n1 m1 m2 hL hs h0
  go_enter Try.func21, Try.ntmps21
  go_wp2_with fail
  go_loop [3, 11] (fun s i => ∃ k : Nat, k ≤ n ∧ i = .int .i64 (k : Int) ∧ s = .int .i64 ((catP (L.take k)).length : Int)) (fun _ i => n - (intOf i).toNat)
  case atStart => exact ⟨0, by omega, rfl, rfl⟩
  case round =>
    obtain ⟨k, hk, rfl, rfl⟩ := hrel
    by_cases hlt : k < n
    · have hlt' : (k : Int) < n := by omega
      have hkl : k < L.length := by rw [HN.out]; exact hlt
      obtain ⟨g, off, rfl, q1, c1⟩ := reads_at HA.out (Below.refl _ _) hlt
      obtain ⟨p, q, d, e1, e2, e3⟩ := hat.out k hlt
      rw [e1] at c1
      have HT := Lib.hid (catP_take hkl)
      have HQ := Lib.hid e2
      have hle : ((catP (L.take (k + 1))).length : Int) ≤ 1000000 := by have h1 := catP_take_le (L := L) (k + 1); have h2 := HS.out; omega
      have hsum : ((catP (L.take (k + 1))).length : Int) = (catP (L.take k)).length + q := by rw [HT.out, List.length_append, HQ.out]; omega
      have HSU := Lib.hid hsum
      clear hkl e1 e2 e3
      generalize (catP (L.take k)).length = s0 at *
      generalize hS1 : (catP (L.take (k + 1))).length = s1 at *
      have HS1 := Lib.hid hS1
      clear hS1
      have hw : (s0 : Int) + q ≤ 1000000 := by omega
      clear hsum
      go_wp2_with fail
      go_roundw
      case rel => exact ⟨k + 1, by omega, by go_num, by rw [HS1.out, HSU.out]⟩
      case measure => simp [intOf]; omega
    · obtain rfl : k = n := by omega
      have e : (catP (L.take k)).length = (catP L).length := by rw [List.take_of_length_le (by rw [HN.out]; omega)]
      rw [e, ← HT0.out]
      clear e
      go_wp2_with (go_at_call 54; (with_reducible refine (CG.out _).mono ?_); rintro e w1 ⟨v1, rfl, own1, hb1⟩)
      go_loopw [6, 27] (fun s i wr => ∃ (j : Nat) (q : Value), j ≤ k ∧ i = .int .i64 (j : Int) ∧ q = s ∧ Hid (PJ w q (catP (L.take j)) wr)) (fun _ i _ => k - (intOf i).toNat)
      case atStart => exact ⟨0, _, by omega, rfl, rfl, Lib.hid ⟨by simpa [catP, u8s] using own1, hb1⟩⟩
      case round =>
        obtain ⟨j, q, hj, rfl, rfl, hJ⟩ := hrel
        by_cases hlt : j < k
        · have hlt' : (j : Int) < k := by omega
          have hkl : j < L.length := by rw [HN.out]; exact hlt
          obtain ⟨g, off, rfl, q1, c1⟩ := reads_at HA.out hJ.out.B hlt
          obtain ⟨p, qn, d, e1, e2, e3⟩ := hat.out j hlt
          rw [e1] at c1
          have HTk := Lib.hid (catP_take hkl)
          have hle : (catP (L.take (j + 1))).length ≤ 1000000 := by have h1 := catP_take_le (L := L) (j + 1); have h2 := HS.out; omega
          rw [HTk.out, List.length_append] at hle
          have ER := Lib.hid (e3.below hJ.out.B)
          generalize (L.getD j (undef, [])).2 = Y at *
          clear e1 e3 e2 hkl
          generalize catP (L.take j) = X at *
          generalize hZ : catP (L.take (j + 1)) = Z at *
          have HZ := Lib.hid hZ
          clear hZ
          have hnm : X.length + (u8s Y).length ≤ maxLen := by rw [u8s_len]; unfold maxLen; omega
          have hnb : (X.length + (u8s Y).length) * 1 ≤ 140737488355328 := by rw [u8s_len]; omega
          have hsz := hJ.out.B.size
          go_wp2_with (at_builtin; refine wpList_append_reads _ rfl _ _ 30 rfl w.heap.size 5 i0 (.int .u8 0) 1 Try.underlying30 hi hz0 hz1 hz2 rfl _ _ _ rfl hJ.out.own (· < w.heap.size) _ (u8s Y) rfl ER.out (u8s_one _) hnm hnb hsz ?_; intro v' w3 hown4 hgrow)
          have J2 : PJ w v' Z w3 := ⟨by rw [HTk.out, List.length_append, u8s_append]; rw [u8s_len] at hown4; exact hown4, hJ.out.B.grown hgrow hsz (fun g hg => (hJ.out.own.lt g hg).1)⟩
          have J2h := Lib.hid J2
          clear J2 hown4
          go_roundw
          case rel => exact ⟨j + 1, _, by omega, by go_num, rfl, by rw [HZ.out]; exact J2h⟩
          case measure => simp [intOf]; omega
        · obtain rfl : j = k := by omega
          have HE := Lib.hid (show L.take j = L by rw [List.take_of_length_le (by rw [HN.out]; omega)])
          rw [HE.out] at hJ
          go_wp2_with fail
          go_ret
          exact ⟨_, rfl, hJ.out.own, hJ.out.B⟩
end Go.Proofs.Ytdlinlkdielmkaa.OR
