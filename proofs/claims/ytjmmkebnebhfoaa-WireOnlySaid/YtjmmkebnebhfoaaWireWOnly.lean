/-
  The law of the one way alone, walked.
-/
import Derived.Test.YtjmmkebnebhfoaaWireAwake
import Derived.Deep.RegionHeld3
set_option linter.unusedSimpArgs false
set_option linter.unusedVariables false
namespace Go.Proofs.Ytjmmkebnebhfoaa.WK
open Go.RowKit WM NR

theorem WireOnly_bad (l : List UInt8) (v : Value) (M : Int) (w : World) (hr : Reads (· < w.heap.size) w v (u8s l)) (hl : l.length ≤ 140737488351232) (hM : 0 ≤ M ∧ M ≤ 4294967295) (k n : Nat) (l' : List UInt8) (hv : rdVar M.toNat l = (k, n, l')) (hk : k ≠ 0) :
    Calls Try.prog 6 #[v, .int .u32 M] w fun e w' => e = .returned (.bool true) ∧ Below w.heap.size w w' := by
  have CN := Lib.hid (new_any l v w hr (by omega))
  have hz := vr_none M.toNat 5 0 0 l (by have e1 : (vr M.toNat 5 0 0 l).1 = k := congrArg (·.1) hv; rw [e1]; exact hk)
  have e2 : (n, l') = (0, []) := by
    have e3 : (vr M.toNat 5 0 0 l).2 = (n, l') := congrArg (·.2) hv
    rw [← e3]; exact hz
  obtain ⟨rfl, rfl⟩ := Prod.mk.inj e2
  have CV := Lib.hid (fun (u : World) (p : Nat) (hu : Rd u p l 0) => rVar_st u p l [] 0 k 0 M hu (by omega) (by omega) (by unfold stVar; rw [if_pos rfl]; exact hv))
  obtain ⟨a, c, rfl, _, _⟩ := hr.shape
  have hk' : ((k : Int) != 0) = true := by simp; omega
  have HK := Lib.hid hk
  clear hr hv hz e2 hk
  go_enter Try.func6, Try.ntmps6
  go_wp2_with fail
  refine CN.out.mono ?_
  rintro e w1 ⟨p, rfl, hp, hr1, hb1⟩
  have CV1 := Lib.hid (CV.out w1 p hr1)
  have HP := Lib.hid hp
  have HB1 := Lib.hid hb1
  clear hr1 hp hb1
  go_wp2_with fail
  refine CV1.out.mono ?_
  rintro e w2 ⟨rfl, hg2, hr2⟩
  have hb2 := Lib.hid (below_then HB1.out hg2 HP.out HB1.out.size)
  have CE := Lib.hid (err_any w2 p [] k hr2)
  have CL := Lib.hid (rleft_dead w2 (some ⟨p, 0, none⟩) k (dead_of hr2 HK.out))
  clear hg2 hr2
  go_wp2_with (first | (go_at_call 20; refine CE.out.mono ?_; rintro e w' ⟨rfl, rfl⟩) | (go_at_call 21; refine CL.out.mono ?_; rintro e w3 ⟨rfl, hb3⟩) | (go_at_call 17; refine (awakeS _).mono ?_; rintro e w4 ⟨rfl, hb4⟩))
  go_ret
  exact ⟨rfl, below_of (below_of hb2.out hb3) hb4⟩
set_option maxHeartbeats 1000000 in
theorem WireOnly_good (l : List UInt8) (v : Value) (M : Int) (w : World) (hr : Reads (· < w.heap.size) w v (u8s l)) (hl : l.length ≤ 140737488351232) (hM : 0 ≤ M ∧ M ≤ 4294967295) (n : Nat) (l' : List UInt8) (hv : rdVar M.toNat l = (0, n, l')) :
    Calls Try.prog 6 #[v, .int .u32 M] w fun e w' => e = .returned (.bool true) ∧ Below w.heap.size w w' := by
  have CN := Lib.hid (new_any l v w hr (by omega))
  obtain ⟨hlv, hnM⟩ := rdVar_only M.toNat l n l' hv
  have CV := Lib.hid (fun (u : World) (p : Nat) (hu : Rd u p l 0) => rVar_st u p l l' 0 0 n M hu (by omega) (by omega) (by unfold stVar; rw [if_pos rfl]; exact hv))
  have hvp := varL_pos n
  have hll : l.length = (varL n).length + l'.length := by rw [hlv, List.length_append]
  obtain ⟨v2, rsl, d2⟩ := hr.take (P := Try.prog) elemBytes sizeBytes (varL n).length (by rw [u8s_len]; omega)
  rw [← u8s_take, hlv, List.take_left] at d2
  have CW := Lib.hid (fun u => var_any n u (by omega))
  obtain ⟨a, c, rfl, _, _⟩ := hr.shape
  rw [u8s_len] at *
  have hnM' : (n : Int) ≤ M := by omega
  have hn4 : (n : Int) ≤ 4294967295 := by omega
  obtain ⟨hM1, hM2⟩ := hM
  have D2 := Lib.hid d2
  obtain ⟨a2, n2, c2, rfl⟩ := d2.form
  clear hr hv d2 hlv
  generalize hLn : (varL n).length = L at *
  have HLN := Lib.hid hLn
  clear hLn
  have hll' : (l.length : Int) - (l'.length : Int) = (L : Int) := by omega
  have hl1 : (l.length : Int) ≤ 140737488351232 := by omega
  have hl2 : (l'.length : Int) ≤ 140737488351232 := by omega
  have hL1 : (1 : Int) ≤ (L : Int) := by omega
  have hL2 : (L : Int) ≤ (l.length : Int) := by omega
  have HLL := Lib.hid hll'
  clear hll hll' hvp
  go_enter Try.func6, Try.ntmps6
  go_wp2_with fail
  refine CN.out.mono ?_
  rintro e w1 ⟨p, rfl, hp, hr1, hb1⟩
  have CV1 := Lib.hid (CV.out w1 p hr1)
  have HP := Lib.hid hp
  have HB1 := Lib.hid hb1
  clear hr1 hp hb1 CN CV
  go_wp2_with fail
  refine CV1.out.mono ?_
  rintro e w2 ⟨rfl, hg2, hr2⟩
  have hb2 := Lib.hid (below_then HB1.out hg2 HP.out HB1.out.size)
  have CE := Lib.hid (err_any w2 p l' 0 hr2)
  have CL := Lib.hid (rleft_good w2 p l' hr2)
  clear hg2 hr2
  go_wp2_with (first | (go_at_call 20; refine CE.out.mono ?_; rintro e w' ⟨rfl, rfl⟩) | (go_at_call 21; refine CL.out.mono ?_; rintro e w3 ⟨rfl, hb3⟩))
  have hS : Below w.heap.size w w3 := below_of hb2.out hb3
  have rsl' : ∀ u, (Instr.slice 24 (.slice a l.length c) none (some (.int .i64 ((l.length : Int) - (l'.length : Int)))) none).run Try.prog u = .ok (.slice a2 n2 c2) u := fun u => by rw [HLL.out]; exact rsl .i64 u
  have kca : ∀ u, Below w.heap.size w u → (convert 24 9 (.slice a2 n2 c2)).run Try.prog u = .ok (.string (bs (varL n))) u := fun u hu => (reads_on D2.out (fun g hg => hg) hu).text Try.underlying24 Try.underlying5 Try.underlying9
  have hd0 : decide ((n : Int) ≤ M) = true := by simp; omega
  have hd1 : decide ((1 : Int) ≤ (l.length : Int) - (l'.length : Int)) = true := by rw [HLL.out]; simp; omega
  have hd2 : decide ((l.length : Int) - (l'.length : Int) ≤ (l.length : Int)) = true := by rw [HLL.out]; simp; omega
  have hi0 : (0 : Int) ≤ (l.length : Int) - (l'.length : Int) := by rw [HLL.out]; omega
  have hn1 : (n : Int) ≤ M := hnM'
  have h11 : (1 : Int) ≤ (l.length : Int) - (l'.length : Int) := by rw [HLL.out]; omega
  have h22 : (l.length : Int) - (l'.length : Int) ≤ (l.length : Int) := by rw [HLL.out]; omega
  clear rsl hnM' CE CL CV1
  refine wp_region_held_drew (S := fun u => Below w.heap.size w u) (by kernel_rfl) (Below.drew hS) (fun hHeld => ?_)
  refine wpAnyH_take (i := 0) (v := ?vv0) rfl (by kernel_rfl) (by kernel_rfl) (by kernel_rfl) (fun _ _ _ h => h) (Or.inl ⟨by rfl, ?hy0⟩) (by assumption) ?rest0
  case hy0 =>
    intro u hSu
    go_simp
    try with_reducible rfl
  try simp only [Act.put, List.getElem_toArray, List.getElem_cons_succ, List.getElem_cons_zero, List.setIfInBounds_toArray, List.set_cons_zero, List.set_cons_succ]
  refine wpAnyH_take (i := 1) (v := ?vv1) rfl (by kernel_rfl) (by kernel_rfl) (by kernel_rfl) (fun _ _ _ h => h) (Or.inl ⟨by rfl, ?hy1⟩) (by assumption) ?rest1
  case hy1 =>
    intro u hSu
    go_simp
    try with_reducible rfl
  try simp only [Act.put, List.getElem_toArray, List.getElem_cons_succ, List.getElem_cons_zero, List.setIfInBounds_toArray, List.set_cons_zero, List.set_cons_succ]
  refine wpAnyH_take (i := 2) (v := ?vv2) rfl (by kernel_rfl) (by kernel_rfl) (by kernel_rfl) (fun _ _ _ h => h) (Or.inl ⟨by rfl, ?hy2⟩) (by assumption) ?rest2
  case hy2 =>
    intro u hSu
    go_simp
    try with_reducible rfl
  try simp only [Act.put, List.getElem_toArray, List.getElem_cons_succ, List.getElem_cons_zero, List.setIfInBounds_toArray, List.set_cons_zero, List.set_cons_succ]
  refine wpAnyH_take (i := 3) (v := ?vv3) rfl (by kernel_rfl) (by kernel_rfl) (by kernel_rfl) (fun _ _ _ h => h) (Or.inl ⟨by rfl, ?hy3⟩) (by assumption) ?rest3
  case hy3 =>
    intro u hSu
    go_simp
    try with_reducible rfl
  try simp only [Act.put, List.getElem_toArray, List.getElem_cons_succ, List.getElem_cons_zero, List.setIfInBounds_toArray, List.set_cons_zero, List.set_cons_succ]
  refine wpAnyH_take (i := 4) (v := ?vv4) rfl (by kernel_rfl) (by kernel_rfl) (by kernel_rfl) (fun _ _ _ h => h) (Or.inl ⟨by rfl, ?hy4⟩) (by assumption) ?rest4
  case hy4 =>
    intro u hSu
    go_simp
    try with_reducible rfl
  try simp only [Act.put, List.getElem_toArray, List.getElem_cons_succ, List.getElem_cons_zero, List.setIfInBounds_toArray, List.set_cons_zero, List.set_cons_succ]
  refine wpAnyH_take (i := 5) (v := ?vv5) rfl (by kernel_rfl) (by kernel_rfl) (by kernel_rfl) (fun _ _ _ h => h) (Or.inl ⟨by rfl, ?hy5⟩) (by assumption) ?rest5
  case hy5 =>
    intro u hSu
    go_simp
    try with_reducible rfl
  try simp only [Act.put, List.getElem_toArray, List.getElem_cons_succ, List.getElem_cons_zero, List.setIfInBounds_toArray, List.set_cons_zero, List.set_cons_succ]
  refine wpAnyH_take (i := 6) (v := ?vv6) rfl (by kernel_rfl) (by kernel_rfl) (by kernel_rfl) (fun _ _ _ h => h) (Or.inl ⟨by rfl, ?hy6⟩) (by assumption) ?rest6
  case hy6 =>
    intro u hSu
    go_simp
    try with_reducible rfl
  try simp only [Act.put, List.getElem_toArray, List.getElem_cons_succ, List.getElem_cons_zero, List.setIfInBounds_toArray, List.set_cons_zero, List.set_cons_succ]
  refine wpAnyH_take (i := 7) (v := ?vv7) rfl (by kernel_rfl) (by kernel_rfl) (by kernel_rfl) (fun _ _ _ h => h) (Or.inl ⟨by rfl, ?hy7⟩) (by assumption) ?rest7
  case hy7 =>
    intro u hSu
    go_simp
    try with_reducible rfl
  try simp only [Act.put, List.getElem_toArray, List.getElem_cons_succ, List.getElem_cons_zero, List.setIfInBounds_toArray, List.set_cons_zero, List.set_cons_succ]
  refine wpAnyH_take (i := 8) (v := ?vv8) rfl (by kernel_rfl) (by kernel_rfl) (by kernel_rfl) (fun _ _ _ h => h) (Or.inl ⟨by rfl, ?hy8⟩) (by assumption) ?rest8
  case hy8 =>
    intro u hSu
    go_simp
    try with_reducible rfl
  try simp only [Act.put, List.getElem_toArray, List.getElem_cons_succ, List.getElem_cons_zero, List.setIfInBounds_toArray, List.set_cons_zero, List.set_cons_succ]
  refine wpAnyH_take (i := 9) (v := ?vv9) rfl (by kernel_rfl) (by kernel_rfl) (by kernel_rfl) (fun _ _ _ h => h) (Or.inl ⟨by rfl, ?hy9⟩) (by assumption) ?rest9
  case hy9 =>
    intro u hSu
    go_simp
    try with_reducible rfl
  try simp only [Act.put, List.getElem_toArray, List.getElem_cons_succ, List.getElem_cons_zero, List.setIfInBounds_toArray, List.set_cons_zero, List.set_cons_succ]
  refine wpAnyH_take (i := 10) (v := ?vv10) rfl (by kernel_rfl) (by kernel_rfl) (by kernel_rfl) (fun _ _ _ h => h) (Or.inl ⟨by rfl, ?hy10⟩) (by assumption) ?rest10
  case hy10 =>
    intro u hSu
    go_simp
    try with_reducible rfl
  try simp only [Act.put, List.getElem_toArray, List.getElem_cons_succ, List.getElem_cons_zero, List.setIfInBounds_toArray, List.set_cons_zero, List.set_cons_succ]
  refine wpAnyH_take (i := 11) (v := ?vv11) rfl (by kernel_rfl) (by kernel_rfl) (by kernel_rfl) (fun _ _ _ h => h) (Or.inl ⟨by rfl, ?hy11⟩) (by assumption) ?rest11
  case hy11 =>
    intro u hSu
    go_simp
    try with_reducible rfl
  try simp only [Act.put, List.getElem_toArray, List.getElem_cons_succ, List.getElem_cons_zero, List.setIfInBounds_toArray, List.set_cons_zero, List.set_cons_succ]
  refine wpAnyH_take (i := 12) (v := ?vv12) rfl (by kernel_rfl) (by kernel_rfl) (by kernel_rfl) (fun _ _ _ h => h) (Or.inl ⟨by rfl, ?hy12⟩) (by assumption) ?rest12
  case hy12 =>
    intro u hSu
    go_simp
    try with_reducible rfl
  try simp only [Act.put, List.getElem_toArray, List.getElem_cons_succ, List.getElem_cons_zero, List.setIfInBounds_toArray, List.set_cons_zero, List.set_cons_succ]
  refine wpAnyH_take (i := 13) (v := ?vv13) rfl (by kernel_rfl) (by kernel_rfl) (by kernel_rfl) (fun _ _ _ h => h) (Or.inl ⟨by rfl, ?hy13⟩) (by assumption) ?rest13
  case hy13 =>
    intro u hSu
    go_simp
    try with_reducible rfl
  try simp only [Act.put, List.getElem_toArray, List.getElem_cons_succ, List.getElem_cons_zero, List.setIfInBounds_toArray, List.set_cons_zero, List.set_cons_succ]
  refine wpAnyH_take (i := 14) (v := ?vv14) rfl (by kernel_rfl) (by kernel_rfl) (by kernel_rfl) (fun _ _ _ h => h) (Or.inl ⟨by rfl, ?hy14⟩) (by assumption) ?rest14
  case hy14 =>
    intro u hSu
    go_simp
    try with_reducible rfl
  try simp only [Act.put, List.getElem_toArray, List.getElem_cons_succ, List.getElem_cons_zero, List.setIfInBounds_toArray, List.set_cons_zero, List.set_cons_succ]
  refine wpAnyH_take (i := 17) (v := ?vv17) rfl (by kernel_rfl) (by kernel_rfl) (by kernel_rfl) (fun _ _ _ h => h) (Or.inl ⟨by rfl, ?hy17⟩) (by assumption) ?rest17
  case hy17 =>
    intro u hSu
    go_simp
    try with_reducible rfl
  try simp only [Act.put, List.getElem_toArray, List.getElem_cons_succ, List.getElem_cons_zero, List.setIfInBounds_toArray, List.set_cons_zero, List.set_cons_succ]
  refine wpAnyH_take (i := 18) (v := ?vv18) rfl (by kernel_rfl) (by kernel_rfl) (by kernel_rfl) (fun _ _ _ h => h) (Or.inl ⟨by rfl, ?hy18⟩) (by assumption) ?rest18
  case hy18 =>
    intro u hSu
    go_simp
    try with_reducible rfl
  try simp only [Act.put, List.getElem_toArray, List.getElem_cons_succ, List.getElem_cons_zero, List.setIfInBounds_toArray, List.set_cons_zero, List.set_cons_succ]
  refine wpAnyH_take (i := 19) (v := ?vv19) rfl (by kernel_rfl) (by kernel_rfl) (by kernel_rfl) (fun _ _ _ h => h) (Or.inl ⟨by rfl, ?hy19⟩) (by assumption) ?rest19
  case hy19 =>
    intro u hSu
    go_simp
    try with_reducible rfl
  try simp only [Act.put, List.getElem_toArray, List.getElem_cons_succ, List.getElem_cons_zero, List.setIfInBounds_toArray, List.set_cons_zero, List.set_cons_succ]
  refine wpAnyH_take (i := 20) (v := ?vv20) rfl (by kernel_rfl) (by kernel_rfl) (by kernel_rfl) (fun _ _ _ h => h) (Or.inl ⟨by rfl, ?hy20⟩) (by assumption) ?rest20
  case hy20 =>
    intro u hSu
    go_simp
    try with_reducible rfl
  try simp only [Act.put, List.getElem_toArray, List.getElem_cons_succ, List.getElem_cons_zero, List.setIfInBounds_toArray, List.set_cons_zero, List.set_cons_succ]
  refine wpAnyH_ready (rs := [15]) (by kernel_rfl) (by simp) ?_
  refine AllReadyH.cons rfl (fun K hK => ?_) AllReadyH.nil
  go_simp
  go_at_call 9
  refine (CW.out _).mono ?_
  rintro e w4 ⟨v4, rfl, hown4, hb4⟩
  have kc4 := owns_text hown4 (Below.refl _ _)
  obtain ⟨a4, n4, c4, rfl⟩ := owns_form hown4
  clear hown4
  refine hK.out _ _ ?hS15 (fun hHeld => ?rest15)
  case hS15 => first | assumption | exact below_of (by assumption) (by assumption)
  clear hK K
  try simp only [Act.put, List.getElem_toArray, List.getElem_cons_succ, List.getElem_cons_zero, List.setIfInBounds_toArray, List.set_cons_zero, List.set_cons_succ]
  refine wpAnyH_ready (rs := [16]) (by kernel_rfl) (by simp) ?_
  refine AllReadyH.cons rfl (fun K hK => ?_) AllReadyH.nil
  go_simp
  refine hK.out _ _ ?hS16 (fun hHeld => ?rest16)
  case hS16 => first | assumption | exact below_of (by assumption) (by assumption)
  clear hK K
  try simp only [Act.put, List.getElem_toArray, List.getElem_cons_succ, List.getElem_cons_zero, List.setIfInBounds_toArray, List.set_cons_zero, List.set_cons_succ]
  refine wpAnyH_take (i := 21) (v := ?vv21) rfl (by kernel_rfl) (by kernel_rfl) (by kernel_rfl) (fun _ _ _ h => h) (Or.inl ⟨by rfl, ?hy21⟩) (by assumption) ?rest21
  case hy21 =>
    intro u hSu
    go_simp
    try with_reducible rfl
  try simp only [Act.put, List.getElem_toArray, List.getElem_cons_succ, List.getElem_cons_zero, List.setIfInBounds_toArray, List.set_cons_zero, List.set_cons_succ]
  refine wpAnyH_take (i := 22) (v := ?vv22) rfl (by kernel_rfl) (by kernel_rfl) (by kernel_rfl) (fun _ _ _ h => h) (Or.inl ⟨by rfl, ?hy22⟩) (by assumption) ?rest22
  case hy22 =>
    intro u hSu
    go_simp
    try with_reducible rfl
  try simp only [Act.put, List.getElem_toArray, List.getElem_cons_succ, List.getElem_cons_zero, List.setIfInBounds_toArray, List.set_cons_zero, List.set_cons_succ]
  refine wpAnyH_take (i := 23) (v := ?vv23) rfl (by kernel_rfl) (by kernel_rfl) (by kernel_rfl) (fun _ _ _ h => h) (Or.inl ⟨by rfl, ?hy23⟩) (by assumption) ?rest23
  case hy23 =>
    intro u hSu
    go_simp
    try with_reducible rfl
  try simp only [Act.put, List.getElem_toArray, List.getElem_cons_succ, List.getElem_cons_zero, List.setIfInBounds_toArray, List.set_cons_zero, List.set_cons_succ]
  refine wpAnyH_ready (rs := [24]) (by kernel_rfl) (by simp) ?_
  refine AllReadyH.cons rfl (fun K hK => ?_) AllReadyH.nil
  go_simp
  go_at_call 17
  refine (awakeS _).mono ?_
  rintro e w5 ⟨rfl, hb5⟩
  refine hK.out _ _ ?hS24 (fun hHeld => ?rest24)
  case hS24 => first | assumption | exact below_of (by assumption) (by assumption)
  clear hK K
  try simp only [Act.put, List.getElem_toArray, List.getElem_cons_succ, List.getElem_cons_zero, List.setIfInBounds_toArray, List.set_cons_zero, List.set_cons_succ]
  refine wpAnyH_take (i := 25) (v := ?vv25) rfl (by kernel_rfl) (by kernel_rfl) (by kernel_rfl) (fun _ _ _ h => h) (Or.inl ⟨by rfl, ?hy25⟩) (by assumption) ?rest25
  case hy25 =>
    intro u hSu
    go_simp
    try with_reducible rfl
  try simp only [Act.put, List.getElem_toArray, List.getElem_cons_succ, List.getElem_cons_zero, List.setIfInBounds_toArray, List.set_cons_zero, List.set_cons_succ]
  refine wpAnyH_take (i := 26) (v := ?vv26) rfl (by kernel_rfl) (by kernel_rfl) (by kernel_rfl) (fun _ _ _ h => h) (Or.inl ⟨by rfl, ?hy26⟩) (by assumption) ?rest26
  case hy26 =>
    intro u hSu
    go_simp
    try with_reducible rfl
  try simp only [Act.put, List.getElem_toArray, List.getElem_cons_succ, List.getElem_cons_zero, List.setIfInBounds_toArray, List.set_cons_zero, List.set_cons_succ]
  refine wpAnyH_done (by kernel_rfl) ?_ _

  go_wp2_with fail
  go_ret
  exact ⟨rfl, by assumption⟩
theorem WireOnly_walk (l : List UInt8) (v : Value) (M : Int) (w : World) (hr : Reads (· < w.heap.size) w v (u8s l)) (hl : l.length ≤ 140737488351232) (hM : 0 ≤ M ∧ M ≤ 4294967295) :
    Calls Try.prog 6 #[v, .int .u32 M] w fun e w' => e = .returned (.bool true) ∧ Below w.heap.size w w' := by
  obtain ⟨k, n, l', hv⟩ : ∃ k n l', rdVar M.toNat l = (k, n, l') := ⟨_, _, _, rfl⟩
  by_cases hk : k = 0
  · subst hk
    exact WireOnly_good l v M w hr hl hM n l' hv
  · exact WireOnly_bad l v M w hr hl hM k n l' hv hk
end Go.Proofs.Ytjmmkebnebhfoaa.WK
