/-
  The law of what is laid, walked.
-/
import Derived.Test.YtjmmkebnebhfoaaWireAwake
import Derived.Test.YtjmmkebnebhfoaaLimb
set_option linter.unusedSimpArgs false
set_option linter.unusedVariables false
namespace Go.Proofs.Ytjmmkebnebhfoaa.WK
open Go.RowKit WM NR

set_option maxHeartbeats 2000000 in
theorem WirePuts_walk (x : Int) (s : ByteArray) (l : List Nat) (v : Value) (w : World) (hx : 0 ≤ x ∧ x ≤ 4294967295) (hs : s.size ≤ 140737488351232) (hr : Reads (· < w.heap.size) w v (u32s l)) (hw : ∀ y ∈ l, y < 4294967296) (hl : l.length * 4 ≤ 140737488351232) :
    Calls Try.prog 3 #[.int .u32 x, .string s, v] w fun e w' => e = .returned (.bool true) ∧ Below w.heap.size w w' := by
  obtain ⟨n, rfl⟩ := Int.eq_ofNat_of_zero_le hx.1
  have hn : n < 4294967296 := by omega
  have CV := Lib.hid (fun u => var_any n u hn)
  have CV' := Lib.hid (fun u => refVar_any n u hn)
  have CW := Lib.hid (fun u => word_any n u hn)
  have CW' := Lib.hid (fun u => refWord_any n u hn)
  have CT := Lib.hid (fun u => text_any s u hs)
  have CT' := Lib.hid (fun u => refText_any s u hs)
  have CM := Lib.hid (fun (u : World) (hu : Below w.heap.size w u) => words_any l v u ((reads_on hr (fun g hg => hg) hu).mono (fun g hg => Nat.lt_of_lt_of_le hg hu.size)) hl hw)
  have CM' := Lib.hid (fun (u : World) (hu : Below w.heap.size w u) => refWords_any l v u ((reads_on hr (fun g hg => hg) hu).mono (fun g hg => Nat.lt_of_lt_of_le hg hu.size)) hl hw)
  obtain ⟨a, k, c, rfl⟩ := hr.form
  have hS : Below w.heap.size w w := Below.refl _ _
  clear hr hw hx hs hl
  generalize hnz : (n : Int) = nz at *
  clear hnz
  generalize hLV : varL n = LV at *
  generalize hLW : wordL n = LW at *
  generalize hLT : textL s.data.toList = LT at *
  generalize hLM : wordsL l = LMs at *
  clear hLV hLW hLT hLM hn
  go_enter Try.func3, Try.ntmps3
  go_wp2_with fail
  refine wp_region_held_drew (S := fun u => Below w.heap.size w u) (by kernel_rfl) (Below.drew hS) (fun hHeld => ?_)
  refine wpAnyH_take (i := 0) (v := ?vv0) rfl (by kernel_rfl) (by kernel_rfl) (by kernel_rfl) (fun _ _ _ h => h) (Or.inl ⟨by rfl, ?hy0⟩) (by assumption) ?rest0
  case hy0 =>
    intro u hSu
    go_simp
    try with_reducible rfl
  try simp only [Act.put, List.getElem_toArray, List.getElem_cons_succ, List.getElem_cons_zero, List.setIfInBounds_toArray, List.set_cons_zero, List.set_cons_succ]
  refine wpAnyH_take (i := 3) (v := ?vv3) rfl (by kernel_rfl) (by kernel_rfl) (by kernel_rfl) (fun _ _ _ h => h) (Or.inl ⟨by rfl, ?hy3⟩) (by assumption) ?rest3
  case hy3 =>
    intro u hSu
    go_simp
    try with_reducible rfl
  try simp only [Act.put, List.getElem_toArray, List.getElem_cons_succ, List.getElem_cons_zero, List.setIfInBounds_toArray, List.set_cons_zero, List.set_cons_succ]
  refine LM.limb 1 2 4 5 (fun v u => ∃ B, u.ownsRow B 5 1 v (LV).length (u8s (LV))) (fun v u => ∃ B, u.ownsRow B 5 1 v (LV).length (u8s (LV))) (.string (bs (LV))) (.string (bs (LV))) rfl rfl rfl rfl rfl rfl rfl rfl (by decide) (by decide) (by decide) (by decide) (by kernel_rfl) (by kernel_rfl) (by kernel_rfl) (by kernel_rfl) (by kernel_rfl) (by kernel_rfl) ?s1A ?s2A ?s3A ?s4A ?t3A ?t2A ?t4A ?u2A ?tailA
  case s1A =>
    intro K hK
    unfold LM.Step
    go_simp
    go_at_call 9
    refine (CV.out _).mono ?_
    rintro e u1 ⟨v1, rfl, hown, hb⟩
    refine hK v1 _ u1 ?_ (below_of hHeld hb) ⟨_, hown⟩
    first | rfl | simp only [Act.put, List.getElem_toArray, List.getElem_cons_succ, List.getElem_cons_zero, List.setIfInBounds_toArray, List.set_cons_zero, List.set_cons_succ]
  case s2A =>
    intro v1 u1 hS ⟨B, hA⟩ K hK
    have kc := owns_text hA (Below.refl _ _)
    obtain ⟨ay, ny, cy, rfl⟩ := owns_form hA
    clear hA
    unfold LM.Step
    simp only [Act.put, List.getElem_toArray, List.getElem_cons_succ, List.getElem_cons_zero, List.setIfInBounds_toArray, List.set_cons_zero, List.set_cons_succ]
    go_simp
    refine hK _ ?_
    first | rfl | simp only [Act.put, List.getElem_toArray, List.getElem_cons_succ, List.getElem_cons_zero, List.setIfInBounds_toArray, List.set_cons_zero, List.set_cons_succ]
  case s4A =>
    intro v1 v2 u1 hS ⟨B, hA⟩ K hK
    have kc := owns_text hA (Below.refl _ _)
    obtain ⟨ay, ny, cy, rfl⟩ := owns_form hA
    clear hA
    unfold LM.Step
    simp only [Act.put, List.getElem_toArray, List.getElem_cons_succ, List.getElem_cons_zero, List.setIfInBounds_toArray, List.set_cons_zero, List.set_cons_succ]
    go_simp
    refine hK _ ?_
    first | rfl | simp only [Act.put, List.getElem_toArray, List.getElem_cons_succ, List.getElem_cons_zero, List.setIfInBounds_toArray, List.set_cons_zero, List.set_cons_succ]
  case t2A =>
    intro v1 v2 u1 hS ⟨B, hA⟩ K hK
    have kc := owns_text hA (Below.refl _ _)
    obtain ⟨ay, ny, cy, rfl⟩ := owns_form hA
    clear hA
    unfold LM.Step
    simp only [Act.put, List.getElem_toArray, List.getElem_cons_succ, List.getElem_cons_zero, List.setIfInBounds_toArray, List.set_cons_zero, List.set_cons_succ]
    go_simp
    refine hK _ ?_
    first | rfl | simp only [Act.put, List.getElem_toArray, List.getElem_cons_succ, List.getElem_cons_zero, List.setIfInBounds_toArray, List.set_cons_zero, List.set_cons_succ]
  case t4A =>
    intro v1 v2 u1 hS ⟨B, hA⟩ K hK
    have kc := owns_text hA (Below.refl _ _)
    obtain ⟨ay, ny, cy, rfl⟩ := owns_form hA
    clear hA
    unfold LM.Step
    simp only [Act.put, List.getElem_toArray, List.getElem_cons_succ, List.getElem_cons_zero, List.setIfInBounds_toArray, List.set_cons_zero, List.set_cons_succ]
    go_simp
    refine hK _ ?_
    first | rfl | simp only [Act.put, List.getElem_toArray, List.getElem_cons_succ, List.getElem_cons_zero, List.setIfInBounds_toArray, List.set_cons_zero, List.set_cons_succ]
  case u2A =>
    intro v1 v2 u1 hS ⟨B, hA⟩ K hK
    have kc := owns_text hA (Below.refl _ _)
    obtain ⟨ay, ny, cy, rfl⟩ := owns_form hA
    clear hA
    unfold LM.Step
    simp only [Act.put, List.getElem_toArray, List.getElem_cons_succ, List.getElem_cons_zero, List.setIfInBounds_toArray, List.set_cons_zero, List.set_cons_succ]
    go_simp
    refine hK _ ?_
    first | rfl | simp only [Act.put, List.getElem_toArray, List.getElem_cons_succ, List.getElem_cons_zero, List.setIfInBounds_toArray, List.set_cons_zero, List.set_cons_succ]
  case s3A =>
    intro v1 u1 hS ⟨B, hA⟩ K hK
    unfold LM.Step
    simp only [Act.put, List.getElem_toArray, List.getElem_cons_succ, List.getElem_cons_zero, List.setIfInBounds_toArray, List.set_cons_zero, List.set_cons_succ]
    go_simp
    go_at_call 10
    refine (CV'.out _).mono ?_
    rintro e u2 ⟨v2, rfl, hown, hb⟩
    refine hK v2 _ u2 ?_ (below_of hS hb) ⟨_, owns_below hA hb⟩ ⟨_, hown⟩
    first | rfl | simp only [Act.put, List.getElem_toArray, List.getElem_cons_succ, List.getElem_cons_zero, List.setIfInBounds_toArray, List.set_cons_zero, List.set_cons_succ]
  case t3A =>
    intro v1 u1 hS ⟨B, hA⟩ K hK
    unfold LM.Step
    simp only [Act.put, List.getElem_toArray, List.getElem_cons_succ, List.getElem_cons_zero, List.setIfInBounds_toArray, List.set_cons_zero, List.set_cons_succ]
    go_simp
    go_at_call 10
    refine (CV'.out _).mono ?_
    rintro e u2 ⟨v2, rfl, hown, hb⟩
    refine hK v2 _ u2 ?_ (below_of hS hb) ⟨_, owns_below hA hb⟩ ⟨_, hown⟩
    first | rfl | simp only [Act.put, List.getElem_toArray, List.getElem_cons_succ, List.getElem_cons_zero, List.setIfInBounds_toArray, List.set_cons_zero, List.set_cons_succ]
  clear hHeld
  intro v1A v2A uA hHeld
  try simp only [Act.put, List.getElem_toArray, List.getElem_cons_succ, List.getElem_cons_zero, List.setIfInBounds_toArray, List.set_cons_zero, List.set_cons_succ]
  refine wpAnyH_take (i := 6) (v := ?vv6) rfl (by kernel_rfl) (by kernel_rfl) (by kernel_rfl) (fun _ _ _ h => h) (Or.inl ⟨by rfl, ?hy6⟩) (by assumption) ?rest6
  case hy6 =>
    intro u hSu
    go_simp
    try with_reducible rfl
  try simp only [Act.put, List.getElem_toArray, List.getElem_cons_succ, List.getElem_cons_zero, List.setIfInBounds_toArray, List.set_cons_zero, List.set_cons_succ]
  refine wpAnyH_take (i := 7) (v := ?vv7) rfl (by kernel_rfl) (by kernel_rfl) (by kernel_rfl) (fun _ _ _ h => h) (Or.inl ⟨by rfl, ?hy7⟩) (by assumption) ?rest7
  case hy7 =>
    intro u hSu
    go_simp
    try with_reducible rfl
  try simp only [Act.put, List.getElem_toArray, List.getElem_cons_succ, List.getElem_cons_zero, List.setIfInBounds_toArray, List.set_cons_zero, List.set_cons_succ]
  refine wpAnyH_take (i := 8) (v := ?vv8) rfl (by kernel_rfl) (by kernel_rfl) (by kernel_rfl) (fun _ _ _ h => h) (Or.inl ⟨by rfl, ?hy8⟩) (by assumption) ?rest8
  case hy8 =>
    intro u hSu
    go_simp
    try with_reducible rfl
  try simp only [Act.put, List.getElem_toArray, List.getElem_cons_succ, List.getElem_cons_zero, List.setIfInBounds_toArray, List.set_cons_zero, List.set_cons_succ]
  refine wpAnyH_take (i := 11) (v := ?vv11) rfl (by kernel_rfl) (by kernel_rfl) (by kernel_rfl) (fun _ _ _ h => h) (Or.inl ⟨by rfl, ?hy11⟩) (by assumption) ?rest11
  case hy11 =>
    intro u hSu
    go_simp
    try with_reducible rfl
  try simp only [Act.put, List.getElem_toArray, List.getElem_cons_succ, List.getElem_cons_zero, List.setIfInBounds_toArray, List.set_cons_zero, List.set_cons_succ]
  refine LM.limb 9 10 12 13 (fun v u => ∃ B, u.ownsRow B 5 1 v (LW).length (u8s (LW))) (fun v u => ∃ B, u.ownsRow B 5 1 v (LW).length (u8s (LW))) (.string (bs (LW))) (.string (bs (LW))) rfl rfl rfl rfl rfl rfl rfl rfl (by decide) (by decide) (by decide) (by decide) (by kernel_rfl) (by kernel_rfl) (by kernel_rfl) (by kernel_rfl) (by kernel_rfl) (by kernel_rfl) ?s1B ?s2B ?s3B ?s4B ?t3B ?t2B ?t4B ?u2B ?tailB
  case s1B =>
    intro K hK
    unfold LM.Step
    go_simp
    go_at_call 11
    refine (CW.out _).mono ?_
    rintro e u1 ⟨v1, rfl, hown, hb⟩
    refine hK v1 _ u1 ?_ (below_of hHeld hb) ⟨_, hown⟩
    first | rfl | simp only [Act.put, List.getElem_toArray, List.getElem_cons_succ, List.getElem_cons_zero, List.setIfInBounds_toArray, List.set_cons_zero, List.set_cons_succ]
  case s2B =>
    intro v1 u1 hS ⟨B, hA⟩ K hK
    have kc := owns_text hA (Below.refl _ _)
    obtain ⟨ay, ny, cy, rfl⟩ := owns_form hA
    clear hA
    unfold LM.Step
    simp only [Act.put, List.getElem_toArray, List.getElem_cons_succ, List.getElem_cons_zero, List.setIfInBounds_toArray, List.set_cons_zero, List.set_cons_succ]
    go_simp
    refine hK _ ?_
    first | rfl | simp only [Act.put, List.getElem_toArray, List.getElem_cons_succ, List.getElem_cons_zero, List.setIfInBounds_toArray, List.set_cons_zero, List.set_cons_succ]
  case s4B =>
    intro v1 v2 u1 hS ⟨B, hA⟩ K hK
    have kc := owns_text hA (Below.refl _ _)
    obtain ⟨ay, ny, cy, rfl⟩ := owns_form hA
    clear hA
    unfold LM.Step
    simp only [Act.put, List.getElem_toArray, List.getElem_cons_succ, List.getElem_cons_zero, List.setIfInBounds_toArray, List.set_cons_zero, List.set_cons_succ]
    go_simp
    refine hK _ ?_
    first | rfl | simp only [Act.put, List.getElem_toArray, List.getElem_cons_succ, List.getElem_cons_zero, List.setIfInBounds_toArray, List.set_cons_zero, List.set_cons_succ]
  case t2B =>
    intro v1 v2 u1 hS ⟨B, hA⟩ K hK
    have kc := owns_text hA (Below.refl _ _)
    obtain ⟨ay, ny, cy, rfl⟩ := owns_form hA
    clear hA
    unfold LM.Step
    simp only [Act.put, List.getElem_toArray, List.getElem_cons_succ, List.getElem_cons_zero, List.setIfInBounds_toArray, List.set_cons_zero, List.set_cons_succ]
    go_simp
    refine hK _ ?_
    first | rfl | simp only [Act.put, List.getElem_toArray, List.getElem_cons_succ, List.getElem_cons_zero, List.setIfInBounds_toArray, List.set_cons_zero, List.set_cons_succ]
  case t4B =>
    intro v1 v2 u1 hS ⟨B, hA⟩ K hK
    have kc := owns_text hA (Below.refl _ _)
    obtain ⟨ay, ny, cy, rfl⟩ := owns_form hA
    clear hA
    unfold LM.Step
    simp only [Act.put, List.getElem_toArray, List.getElem_cons_succ, List.getElem_cons_zero, List.setIfInBounds_toArray, List.set_cons_zero, List.set_cons_succ]
    go_simp
    refine hK _ ?_
    first | rfl | simp only [Act.put, List.getElem_toArray, List.getElem_cons_succ, List.getElem_cons_zero, List.setIfInBounds_toArray, List.set_cons_zero, List.set_cons_succ]
  case u2B =>
    intro v1 v2 u1 hS ⟨B, hA⟩ K hK
    have kc := owns_text hA (Below.refl _ _)
    obtain ⟨ay, ny, cy, rfl⟩ := owns_form hA
    clear hA
    unfold LM.Step
    simp only [Act.put, List.getElem_toArray, List.getElem_cons_succ, List.getElem_cons_zero, List.setIfInBounds_toArray, List.set_cons_zero, List.set_cons_succ]
    go_simp
    refine hK _ ?_
    first | rfl | simp only [Act.put, List.getElem_toArray, List.getElem_cons_succ, List.getElem_cons_zero, List.setIfInBounds_toArray, List.set_cons_zero, List.set_cons_succ]
  case s3B =>
    intro v1 u1 hS ⟨B, hA⟩ K hK
    unfold LM.Step
    simp only [Act.put, List.getElem_toArray, List.getElem_cons_succ, List.getElem_cons_zero, List.setIfInBounds_toArray, List.set_cons_zero, List.set_cons_succ]
    go_simp
    go_at_call 12
    refine (CW'.out _).mono ?_
    rintro e u2 ⟨v2, rfl, hown, hb⟩
    refine hK v2 _ u2 ?_ (below_of hS hb) ⟨_, owns_below hA hb⟩ ⟨_, hown⟩
    first | rfl | simp only [Act.put, List.getElem_toArray, List.getElem_cons_succ, List.getElem_cons_zero, List.setIfInBounds_toArray, List.set_cons_zero, List.set_cons_succ]
  case t3B =>
    intro v1 u1 hS ⟨B, hA⟩ K hK
    unfold LM.Step
    simp only [Act.put, List.getElem_toArray, List.getElem_cons_succ, List.getElem_cons_zero, List.setIfInBounds_toArray, List.set_cons_zero, List.set_cons_succ]
    go_simp
    go_at_call 12
    refine (CW'.out _).mono ?_
    rintro e u2 ⟨v2, rfl, hown, hb⟩
    refine hK v2 _ u2 ?_ (below_of hS hb) ⟨_, owns_below hA hb⟩ ⟨_, hown⟩
    first | rfl | simp only [Act.put, List.getElem_toArray, List.getElem_cons_succ, List.getElem_cons_zero, List.setIfInBounds_toArray, List.set_cons_zero, List.set_cons_succ]
  clear hHeld
  intro v1B v2B uB hHeld
  try simp only [Act.put, List.getElem_toArray, List.getElem_cons_succ, List.getElem_cons_zero, List.setIfInBounds_toArray, List.set_cons_zero, List.set_cons_succ]
  refine wpAnyH_take (i := 14) (v := ?vv14) rfl (by kernel_rfl) (by kernel_rfl) (by kernel_rfl) (fun _ _ _ h => h) (Or.inl ⟨by rfl, ?hy14⟩) (by assumption) ?rest14
  case hy14 =>
    intro u hSu
    go_simp
    try with_reducible rfl
  try simp only [Act.put, List.getElem_toArray, List.getElem_cons_succ, List.getElem_cons_zero, List.setIfInBounds_toArray, List.set_cons_zero, List.set_cons_succ]
  refine wpAnyH_take (i := 15) (v := ?vv15) rfl (by kernel_rfl) (by kernel_rfl) (by kernel_rfl) (fun _ _ _ h => h) (Or.inl ⟨by rfl, ?hy15⟩) (by assumption) ?rest15
  case hy15 =>
    intro u hSu
    go_simp
    try with_reducible rfl
  try simp only [Act.put, List.getElem_toArray, List.getElem_cons_succ, List.getElem_cons_zero, List.setIfInBounds_toArray, List.set_cons_zero, List.set_cons_succ]
  refine wpAnyH_take (i := 16) (v := ?vv16) rfl (by kernel_rfl) (by kernel_rfl) (by kernel_rfl) (fun _ _ _ h => h) (Or.inl ⟨by rfl, ?hy16⟩) (by assumption) ?rest16
  case hy16 =>
    intro u hSu
    go_simp
    try with_reducible rfl
  try simp only [Act.put, List.getElem_toArray, List.getElem_cons_succ, List.getElem_cons_zero, List.setIfInBounds_toArray, List.set_cons_zero, List.set_cons_succ]
  refine wpAnyH_take (i := 17) (v := ?vv17) rfl (by kernel_rfl) (by kernel_rfl) (by kernel_rfl) (fun _ _ _ h => h) (Or.inl ⟨by rfl, ?hy17⟩) (by assumption) ?rest17
  case hy17 =>
    intro u hSu
    go_simp
    try with_reducible rfl
  try simp only [Act.put, List.getElem_toArray, List.getElem_cons_succ, List.getElem_cons_zero, List.setIfInBounds_toArray, List.set_cons_zero, List.set_cons_succ]
  refine wpAnyH_take (i := 20) (v := ?vv20) rfl (by kernel_rfl) (by kernel_rfl) (by kernel_rfl) (fun _ _ _ h => h) (Or.inl ⟨by rfl, ?hy20⟩) (by assumption) ?rest20
  case hy20 =>
    intro u hSu
    go_simp
    try with_reducible rfl
  try simp only [Act.put, List.getElem_toArray, List.getElem_cons_succ, List.getElem_cons_zero, List.setIfInBounds_toArray, List.set_cons_zero, List.set_cons_succ]
  refine LM.limb 18 19 21 22 (fun v u => ∃ B, u.ownsRow B 5 1 v (LT).length (u8s (LT))) (fun v u => ∃ B, u.ownsRow B 5 1 v (LT).length (u8s (LT))) (.string (bs (LT))) (.string (bs (LT))) rfl rfl rfl rfl rfl rfl rfl rfl (by decide) (by decide) (by decide) (by decide) (by kernel_rfl) (by kernel_rfl) (by kernel_rfl) (by kernel_rfl) (by kernel_rfl) (by kernel_rfl) ?s1C ?s2C ?s3C ?s4C ?t3C ?t2C ?t4C ?u2C ?tailC
  case s1C =>
    intro K hK
    unfold LM.Step
    go_simp
    go_at_call 13
    refine (CT.out _).mono ?_
    rintro e u1 ⟨v1, rfl, hown, hb⟩
    refine hK v1 _ u1 ?_ (below_of hHeld hb) ⟨_, hown⟩
    first | rfl | simp only [Act.put, List.getElem_toArray, List.getElem_cons_succ, List.getElem_cons_zero, List.setIfInBounds_toArray, List.set_cons_zero, List.set_cons_succ]
  case s2C =>
    intro v1 u1 hS ⟨B, hA⟩ K hK
    have kc := owns_text hA (Below.refl _ _)
    obtain ⟨ay, ny, cy, rfl⟩ := owns_form hA
    clear hA
    unfold LM.Step
    simp only [Act.put, List.getElem_toArray, List.getElem_cons_succ, List.getElem_cons_zero, List.setIfInBounds_toArray, List.set_cons_zero, List.set_cons_succ]
    go_simp
    refine hK _ ?_
    first | rfl | simp only [Act.put, List.getElem_toArray, List.getElem_cons_succ, List.getElem_cons_zero, List.setIfInBounds_toArray, List.set_cons_zero, List.set_cons_succ]
  case s4C =>
    intro v1 v2 u1 hS ⟨B, hA⟩ K hK
    have kc := owns_text hA (Below.refl _ _)
    obtain ⟨ay, ny, cy, rfl⟩ := owns_form hA
    clear hA
    unfold LM.Step
    simp only [Act.put, List.getElem_toArray, List.getElem_cons_succ, List.getElem_cons_zero, List.setIfInBounds_toArray, List.set_cons_zero, List.set_cons_succ]
    go_simp
    refine hK _ ?_
    first | rfl | simp only [Act.put, List.getElem_toArray, List.getElem_cons_succ, List.getElem_cons_zero, List.setIfInBounds_toArray, List.set_cons_zero, List.set_cons_succ]
  case t2C =>
    intro v1 v2 u1 hS ⟨B, hA⟩ K hK
    have kc := owns_text hA (Below.refl _ _)
    obtain ⟨ay, ny, cy, rfl⟩ := owns_form hA
    clear hA
    unfold LM.Step
    simp only [Act.put, List.getElem_toArray, List.getElem_cons_succ, List.getElem_cons_zero, List.setIfInBounds_toArray, List.set_cons_zero, List.set_cons_succ]
    go_simp
    refine hK _ ?_
    first | rfl | simp only [Act.put, List.getElem_toArray, List.getElem_cons_succ, List.getElem_cons_zero, List.setIfInBounds_toArray, List.set_cons_zero, List.set_cons_succ]
  case t4C =>
    intro v1 v2 u1 hS ⟨B, hA⟩ K hK
    have kc := owns_text hA (Below.refl _ _)
    obtain ⟨ay, ny, cy, rfl⟩ := owns_form hA
    clear hA
    unfold LM.Step
    simp only [Act.put, List.getElem_toArray, List.getElem_cons_succ, List.getElem_cons_zero, List.setIfInBounds_toArray, List.set_cons_zero, List.set_cons_succ]
    go_simp
    refine hK _ ?_
    first | rfl | simp only [Act.put, List.getElem_toArray, List.getElem_cons_succ, List.getElem_cons_zero, List.setIfInBounds_toArray, List.set_cons_zero, List.set_cons_succ]
  case u2C =>
    intro v1 v2 u1 hS ⟨B, hA⟩ K hK
    have kc := owns_text hA (Below.refl _ _)
    obtain ⟨ay, ny, cy, rfl⟩ := owns_form hA
    clear hA
    unfold LM.Step
    simp only [Act.put, List.getElem_toArray, List.getElem_cons_succ, List.getElem_cons_zero, List.setIfInBounds_toArray, List.set_cons_zero, List.set_cons_succ]
    go_simp
    refine hK _ ?_
    first | rfl | simp only [Act.put, List.getElem_toArray, List.getElem_cons_succ, List.getElem_cons_zero, List.setIfInBounds_toArray, List.set_cons_zero, List.set_cons_succ]
  case s3C =>
    intro v1 u1 hS ⟨B, hA⟩ K hK
    unfold LM.Step
    simp only [Act.put, List.getElem_toArray, List.getElem_cons_succ, List.getElem_cons_zero, List.setIfInBounds_toArray, List.set_cons_zero, List.set_cons_succ]
    go_simp
    go_at_call 14
    refine (CT'.out _).mono ?_
    rintro e u2 ⟨v2, rfl, hown, hb⟩
    refine hK v2 _ u2 ?_ (below_of hS hb) ⟨_, owns_below hA hb⟩ ⟨_, hown⟩
    first | rfl | simp only [Act.put, List.getElem_toArray, List.getElem_cons_succ, List.getElem_cons_zero, List.setIfInBounds_toArray, List.set_cons_zero, List.set_cons_succ]
  case t3C =>
    intro v1 u1 hS ⟨B, hA⟩ K hK
    unfold LM.Step
    simp only [Act.put, List.getElem_toArray, List.getElem_cons_succ, List.getElem_cons_zero, List.setIfInBounds_toArray, List.set_cons_zero, List.set_cons_succ]
    go_simp
    go_at_call 14
    refine (CT'.out _).mono ?_
    rintro e u2 ⟨v2, rfl, hown, hb⟩
    refine hK v2 _ u2 ?_ (below_of hS hb) ⟨_, owns_below hA hb⟩ ⟨_, hown⟩
    first | rfl | simp only [Act.put, List.getElem_toArray, List.getElem_cons_succ, List.getElem_cons_zero, List.setIfInBounds_toArray, List.set_cons_zero, List.set_cons_succ]
  clear hHeld
  intro v1C v2C uC hHeld
  try simp only [Act.put, List.getElem_toArray, List.getElem_cons_succ, List.getElem_cons_zero, List.setIfInBounds_toArray, List.set_cons_zero, List.set_cons_succ]
  refine wpAnyH_take (i := 23) (v := ?vv23) rfl (by kernel_rfl) (by kernel_rfl) (by kernel_rfl) (fun _ _ _ h => h) (Or.inl ⟨by rfl, ?hy23⟩) (by assumption) ?rest23
  case hy23 =>
    intro u hSu
    go_simp
    try with_reducible rfl
  try simp only [Act.put, List.getElem_toArray, List.getElem_cons_succ, List.getElem_cons_zero, List.setIfInBounds_toArray, List.set_cons_zero, List.set_cons_succ]
  refine wpAnyH_take (i := 24) (v := ?vv24) rfl (by kernel_rfl) (by kernel_rfl) (by kernel_rfl) (fun _ _ _ h => h) (Or.inl ⟨by rfl, ?hy24⟩) (by assumption) ?rest24
  case hy24 =>
    intro u hSu
    go_simp
    try with_reducible rfl
  try simp only [Act.put, List.getElem_toArray, List.getElem_cons_succ, List.getElem_cons_zero, List.setIfInBounds_toArray, List.set_cons_zero, List.set_cons_succ]
  refine wpAnyH_take (i := 25) (v := ?vv25) rfl (by kernel_rfl) (by kernel_rfl) (by kernel_rfl) (fun _ _ _ h => h) (Or.inl ⟨by rfl, ?hy25⟩) (by assumption) ?rest25
  case hy25 =>
    intro u hSu
    go_simp
    try with_reducible rfl
  try simp only [Act.put, List.getElem_toArray, List.getElem_cons_succ, List.getElem_cons_zero, List.setIfInBounds_toArray, List.set_cons_zero, List.set_cons_succ]
  refine wpAnyH_take (i := 26) (v := ?vv26) rfl (by kernel_rfl) (by kernel_rfl) (by kernel_rfl) (fun _ _ _ h => h) (Or.inl ⟨by rfl, ?hy26⟩) (by assumption) ?rest26
  case hy26 =>
    intro u hSu
    go_simp
    try with_reducible rfl
  try simp only [Act.put, List.getElem_toArray, List.getElem_cons_succ, List.getElem_cons_zero, List.setIfInBounds_toArray, List.set_cons_zero, List.set_cons_succ]
  refine wpAnyH_take (i := 29) (v := ?vv29) rfl (by kernel_rfl) (by kernel_rfl) (by kernel_rfl) (fun _ _ _ h => h) (Or.inl ⟨by rfl, ?hy29⟩) (by assumption) ?rest29
  case hy29 =>
    intro u hSu
    go_simp
    try with_reducible rfl
  try simp only [Act.put, List.getElem_toArray, List.getElem_cons_succ, List.getElem_cons_zero, List.setIfInBounds_toArray, List.set_cons_zero, List.set_cons_succ]
  refine LM.limb 27 28 30 31 (fun v u => ∃ B, u.ownsRow B 5 1 v (LMs).length (u8s (LMs))) (fun v u => ∃ B, u.ownsRow B 5 1 v (LMs).length (u8s (LMs))) (.string (bs (LMs))) (.string (bs (LMs))) rfl rfl rfl rfl rfl rfl rfl rfl (by decide) (by decide) (by decide) (by decide) (by kernel_rfl) (by kernel_rfl) (by kernel_rfl) (by kernel_rfl) (by kernel_rfl) (by kernel_rfl) ?s1D ?s2D ?s3D ?s4D ?t3D ?t2D ?t4D ?u2D ?tailD
  case s1D =>
    intro K hK
    unfold LM.Step
    go_simp
    go_at_call 15
    refine (CM.out _ hHeld).mono ?_
    rintro e u1 ⟨v1, rfl, hown, hb⟩
    refine hK v1 _ u1 ?_ (below_of hHeld hb) ⟨_, hown⟩
    first | rfl | simp only [Act.put, List.getElem_toArray, List.getElem_cons_succ, List.getElem_cons_zero, List.setIfInBounds_toArray, List.set_cons_zero, List.set_cons_succ]
  case s2D =>
    intro v1 u1 hS ⟨B, hA⟩ K hK
    have kc := owns_text hA (Below.refl _ _)
    obtain ⟨ay, ny, cy, rfl⟩ := owns_form hA
    clear hA
    unfold LM.Step
    simp only [Act.put, List.getElem_toArray, List.getElem_cons_succ, List.getElem_cons_zero, List.setIfInBounds_toArray, List.set_cons_zero, List.set_cons_succ]
    go_simp
    refine hK _ ?_
    first | rfl | simp only [Act.put, List.getElem_toArray, List.getElem_cons_succ, List.getElem_cons_zero, List.setIfInBounds_toArray, List.set_cons_zero, List.set_cons_succ]
  case s4D =>
    intro v1 v2 u1 hS ⟨B, hA⟩ K hK
    have kc := owns_text hA (Below.refl _ _)
    obtain ⟨ay, ny, cy, rfl⟩ := owns_form hA
    clear hA
    unfold LM.Step
    simp only [Act.put, List.getElem_toArray, List.getElem_cons_succ, List.getElem_cons_zero, List.setIfInBounds_toArray, List.set_cons_zero, List.set_cons_succ]
    go_simp
    refine hK _ ?_
    first | rfl | simp only [Act.put, List.getElem_toArray, List.getElem_cons_succ, List.getElem_cons_zero, List.setIfInBounds_toArray, List.set_cons_zero, List.set_cons_succ]
  case t2D =>
    intro v1 v2 u1 hS ⟨B, hA⟩ K hK
    have kc := owns_text hA (Below.refl _ _)
    obtain ⟨ay, ny, cy, rfl⟩ := owns_form hA
    clear hA
    unfold LM.Step
    simp only [Act.put, List.getElem_toArray, List.getElem_cons_succ, List.getElem_cons_zero, List.setIfInBounds_toArray, List.set_cons_zero, List.set_cons_succ]
    go_simp
    refine hK _ ?_
    first | rfl | simp only [Act.put, List.getElem_toArray, List.getElem_cons_succ, List.getElem_cons_zero, List.setIfInBounds_toArray, List.set_cons_zero, List.set_cons_succ]
  case t4D =>
    intro v1 v2 u1 hS ⟨B, hA⟩ K hK
    have kc := owns_text hA (Below.refl _ _)
    obtain ⟨ay, ny, cy, rfl⟩ := owns_form hA
    clear hA
    unfold LM.Step
    simp only [Act.put, List.getElem_toArray, List.getElem_cons_succ, List.getElem_cons_zero, List.setIfInBounds_toArray, List.set_cons_zero, List.set_cons_succ]
    go_simp
    refine hK _ ?_
    first | rfl | simp only [Act.put, List.getElem_toArray, List.getElem_cons_succ, List.getElem_cons_zero, List.setIfInBounds_toArray, List.set_cons_zero, List.set_cons_succ]
  case u2D =>
    intro v1 v2 u1 hS ⟨B, hA⟩ K hK
    have kc := owns_text hA (Below.refl _ _)
    obtain ⟨ay, ny, cy, rfl⟩ := owns_form hA
    clear hA
    unfold LM.Step
    simp only [Act.put, List.getElem_toArray, List.getElem_cons_succ, List.getElem_cons_zero, List.setIfInBounds_toArray, List.set_cons_zero, List.set_cons_succ]
    go_simp
    refine hK _ ?_
    first | rfl | simp only [Act.put, List.getElem_toArray, List.getElem_cons_succ, List.getElem_cons_zero, List.setIfInBounds_toArray, List.set_cons_zero, List.set_cons_succ]
  case s3D =>
    intro v1 u1 hS ⟨B, hA⟩ K hK
    unfold LM.Step
    simp only [Act.put, List.getElem_toArray, List.getElem_cons_succ, List.getElem_cons_zero, List.setIfInBounds_toArray, List.set_cons_zero, List.set_cons_succ]
    go_simp
    go_at_call 16
    refine (CM'.out _ hS).mono ?_
    rintro e u2 ⟨v2, rfl, hown, hb⟩
    refine hK v2 _ u2 ?_ (below_of hS hb) ⟨_, owns_below hA hb⟩ ⟨_, hown⟩
    first | rfl | simp only [Act.put, List.getElem_toArray, List.getElem_cons_succ, List.getElem_cons_zero, List.setIfInBounds_toArray, List.set_cons_zero, List.set_cons_succ]
  case t3D =>
    intro v1 u1 hS ⟨B, hA⟩ K hK
    unfold LM.Step
    simp only [Act.put, List.getElem_toArray, List.getElem_cons_succ, List.getElem_cons_zero, List.setIfInBounds_toArray, List.set_cons_zero, List.set_cons_succ]
    go_simp
    go_at_call 16
    refine (CM'.out _ hS).mono ?_
    rintro e u2 ⟨v2, rfl, hown, hb⟩
    refine hK v2 _ u2 ?_ (below_of hS hb) ⟨_, owns_below hA hb⟩ ⟨_, hown⟩
    first | rfl | simp only [Act.put, List.getElem_toArray, List.getElem_cons_succ, List.getElem_cons_zero, List.setIfInBounds_toArray, List.set_cons_zero, List.set_cons_succ]
  clear hHeld
  intro v1D v2D uD hHeld
  try simp only [Act.put, List.getElem_toArray, List.getElem_cons_succ, List.getElem_cons_zero, List.setIfInBounds_toArray, List.set_cons_zero, List.set_cons_succ]
  refine wpAnyH_take (i := 32) (v := ?vv32) rfl (by kernel_rfl) (by kernel_rfl) (by kernel_rfl) (fun _ _ _ h => h) (Or.inl ⟨by rfl, ?hy32⟩) (by assumption) ?rest32
  case hy32 =>
    intro u hSu
    go_simp
    try with_reducible rfl
  try simp only [Act.put, List.getElem_toArray, List.getElem_cons_succ, List.getElem_cons_zero, List.setIfInBounds_toArray, List.set_cons_zero, List.set_cons_succ]
  refine wpAnyH_take (i := 33) (v := ?vv33) rfl (by kernel_rfl) (by kernel_rfl) (by kernel_rfl) (fun _ _ _ h => h) (Or.inl ⟨by rfl, ?hy33⟩) (by assumption) ?rest33
  case hy33 =>
    intro u hSu
    go_simp
    try with_reducible rfl
  try simp only [Act.put, List.getElem_toArray, List.getElem_cons_succ, List.getElem_cons_zero, List.setIfInBounds_toArray, List.set_cons_zero, List.set_cons_succ]
  refine wpAnyH_take (i := 34) (v := ?vv34) rfl (by kernel_rfl) (by kernel_rfl) (by kernel_rfl) (fun _ _ _ h => h) (Or.inl ⟨by rfl, ?hy34⟩) (by assumption) ?rest34
  case hy34 =>
    intro u hSu
    go_simp
    try with_reducible rfl
  try simp only [Act.put, List.getElem_toArray, List.getElem_cons_succ, List.getElem_cons_zero, List.setIfInBounds_toArray, List.set_cons_zero, List.set_cons_succ]
  refine wpAnyH_ready (rs := [35]) (by kernel_rfl) (by simp) ?_
  refine AllReadyH.cons rfl (fun K hK => ?_) AllReadyH.nil
  go_simp
  go_at_call 17
  refine (awakeS _).mono ?_
  rintro e w5 ⟨rfl, hb5⟩
  refine hK.out _ _ ?hS35 (fun hHeld => ?rest35)
  case hS35 => first | assumption | exact below_of (by assumption) (by assumption)
  clear hK K
  try simp only [Act.put, List.getElem_toArray, List.getElem_cons_succ, List.getElem_cons_zero, List.setIfInBounds_toArray, List.set_cons_zero, List.set_cons_succ]
  refine wpAnyH_take (i := 36) (v := ?vv36) rfl (by kernel_rfl) (by kernel_rfl) (by kernel_rfl) (fun _ _ _ h => h) (Or.inl ⟨by rfl, ?hy36⟩) (by assumption) ?rest36
  case hy36 =>
    intro u hSu
    go_simp
    try with_reducible rfl
  try simp only [Act.put, List.getElem_toArray, List.getElem_cons_succ, List.getElem_cons_zero, List.setIfInBounds_toArray, List.set_cons_zero, List.set_cons_succ]
  refine wpAnyH_take (i := 37) (v := ?vv37) rfl (by kernel_rfl) (by kernel_rfl) (by kernel_rfl) (fun _ _ _ h => h) (Or.inl ⟨by rfl, ?hy37⟩) (by assumption) ?rest37
  case hy37 =>
    intro u hSu
    go_simp
    try with_reducible rfl
  try simp only [Act.put, List.getElem_toArray, List.getElem_cons_succ, List.getElem_cons_zero, List.setIfInBounds_toArray, List.set_cons_zero, List.set_cons_succ]
  refine wpAnyH_done (by kernel_rfl) ?_ _
  go_wp2_with fail
  go_ret
  exact ⟨rfl, by assumption⟩
end Go.Proofs.Ytjmmkebnebhfoaa.WK
