/-
  Joined texts: PageRef, PageRef2, PageRef3. Nothing here is a statement of the seed.
-/
import Derived.Test.YtihcellcdkhadaaGreatPageC
import Derived.Test.YtihcellcdkhadaaGreatPageA
set_option linter.unusedSimpArgs false
set_option linter.unusedVariables false
/-
  The reference's tables: what is told of them, copies, numbers. Nothing here is a statement of the seed.
-/
namespace Go.Proofs.YtihcellcdkhadaaGreat.PF
open Go.RowKit PM PR

theorem refGet_any {g c : Nat} {l : List Pg} {w : World} (hr : Row w g l) (h256 : l.length ≤ 256) (i : Int) : Calls Tryz.prog 59 #[.agg #[.slice (some ⟨g, 0, none⟩) l.length c], .int .i64 i] w fun e w' => e = .returned (pV (gP l i)) ∧ Below w.heap.size w w' := by
  by_cases h0 : i < 0
  · rw [show gP l i = zero by unfold gP; rw [if_pos h0]]
    show Calls _ _ _ _ fun e w' => e = .returned (pgV 0 false false 0 0) ∧ _
    clear hr
    go_enter Tryz.func59, Tryz.ntmps59
    go_wp2_with fail
    exact bodyPost_ret (v := pgV 0 false false 0 0) (by simp [results, Tryz.results59, go_sem]) rfl ⟨rfl, two_new _ _ _⟩
  · obtain ⟨k, rfl⟩ := Int.eq_ofNat_of_zero_le (show 0 ≤ i by omega)
    rw [show gP l (k : Int) = l.getD k zero by unfold gP; rw [if_neg h0]; rfl]
    have hg1 := hr.lt
    have hg2 : g < w.heap.size + 1 := by omega
    have hg3 : g < w.heap.size + 1 + 1 := by omega
    by_cases hk : k < l.length
    · obtain ⟨c0, c1, c2, c3, c4⟩ := hr.five hk rfl
      generalize l.getD k zero = q at *
      obtain ⟨st, ex, wr, ow, ep⟩ := q
      show Calls _ _ _ _ fun e w' => e = .returned (pgV st ex wr ow ep) ∧ _
      simp only at c0 c1 c2 c3 c4
      have hki : (k : Int) < l.length := by omega
      have hk0 : (0 : Int) ≤ k := by omega
      clear hr
      generalize l.length = n at *
      go_enter Tryz.func59, Tryz.ntmps59
      go_wp2_with fail
      exact bodyPost_ret (v := pgV st ex wr ow ep) (by simp [results, Tryz.results59, go_sem]) rfl ⟨rfl, two_new _ _ _⟩
    · rw [show l.getD k zero = zero by rw [List.getD_eq_getElem?_getD, List.getElem?_eq_none (by omega)]; rfl]
      show Calls _ _ _ _ fun e w' => e = .returned (pgV 0 false false 0 0) ∧ _
      have hki : (l.length : Int) ≤ k := by omega
      have hk0 : (0 : Int) ≤ k := by omega
      clear hr
      generalize l.length = n at *
      go_enter Tryz.func59, Tryz.ntmps59
      go_wp2_with fail
      exact bodyPost_ret (v := pgV 0 false false 0 0) (by simp [results, Tryz.results59, go_sem]) rfl ⟨rfl, two_new _ _ _⟩
/-- the reference's copy -/
def CopiedR (l : List Pg) (w : World) (e : Ending) (w' : World) : Prop := ∃ g c, e = .returned (.agg #[.slice (some ⟨g, 0, none⟩) l.length c]) ∧ Row w' g l ∧ w.heap.size ≤ g ∧ l.length ≤ c ∧ c ≤ maxLen ∧ Below w.heap.size w w'
theorem own_empty2 (w : World) (o o' : Obj) : (((w.alloc o).alloc o').alloc (.cells #[] 107)).ownsRow w.heap.size 107 5 (.slice (some ⟨w.heap.size + 1 + 1, 0, none⟩) 0 0) 0 [] :=
  ⟨rfl, Or.inr ⟨w.heap.size + 1 + 1, 0, #[], rfl, by omega, by have := heap_alloc_new ((w.alloc o).alloc o') (.cells #[] 107); simpa using this, Nat.le_refl _, by simp [maxLen], rfl, rfl⟩⟩
theorem copied_any {g c : Nat} {l : List Pg} {w : World} (hr : Row w g l) (h256 : l.length ≤ 256) : Calls Tryz.prog 56 #[.agg #[.slice (some ⟨g, 0, none⟩) l.length c]] w (CopiedR l w) := by
  obtain ⟨i0, hi, hz0, hz1, hz2⟩ := info_parts infoPg
  have hn := Lib.hid (Row.news (((hr.alloc (.cells #[.slice (some ⟨g, 0, none⟩) l.length c] 34)).alloc (.cells #[.slice none 0 0] 34)).alloc (.cells #[] 107)))
  have hl := Lib.hid (cs_len l)
  have HO := Lib.hid (own_empty2 w (.cells #[.slice (some ⟨g, 0, none⟩) l.length c] 34) (.cells #[.slice none 0 0] 34))
  have hB3 : Below w.heap.size w (((w.alloc (.cells #[.slice (some ⟨g, 0, none⟩) l.length c] 34)).alloc (.cells #[.slice none 0 0] 34)).alloc (.cells #[] 107)) := (two_new _ _ _).alloc (by simp; omega) _
  go_enter Tryz.func56, Tryz.ntmps56
  go_wp2_with (at_builtin; refine wpList_append_own _ rfl _ _ 32 rfl w.heap.size 107 i0 _ 5 16 Tryz.underlying32 hi hz0 hz1 hz2 rfl (by decide) (.slice (some ⟨w.heap.size + 1 + 1, 0, none⟩) 0 0) 0 [] rfl HO.out ⟨g, 0, none⟩ l.length c (cs l) rfl hl.out hn.out (cs_one l) (by unfold maxLen; omega) (by omega) (by simp; omega) ?_; intro v' w1 hown hgrow hnil; obtain ⟨g', c', rfl, hrow, hg', hc1, hc2, hb⟩ := copied_of hB3 hown hgrow (by intro g h; simp [Value.ownBlock] at h; omega) hnil (by simp); have HR := Lib.hid hrow; have hk1 := hgrow.block (w.heap.size + 1) (by simp) (by simp [Value.ownBlock]); have hs1 := hgrow.size; simp at hs1; have hc9 := World.cell?_of_block (a := ⟨w.heap.size + 1, 0, none⟩) hk1; have hB9 : Whole w1 (w.heap.size + 1) 34 #[.slice none 0 0] := (by have := (Whole.new (w.alloc (.cells #[.slice (some ⟨g, 0, none⟩) l.length c] 34)) 34 #[.slice none 0 0]).alloc (.cells #[] 107); simp at this; exact hk1.trans this); have hc8 := hB9.cell 0; have hf8 := hB9.frozen 0; have HB := Lib.hid hB9; clear hown hgrow hnil hrow hk1 hc9 hB9)
  have hb9 := HB.out.set_ 0 (.slice (some ⟨g', 0, none⟩) l.length c')
  have hc10 := hb9.cell 0
  simp at hc10
  refine bodyPost_ret (v := .agg #[.slice (some ⟨g', 0, none⟩) l.length c']) (by simp [results, Tryz.results56, go_sem, hc10]) rfl ?_
  exact ⟨g', c', rfl, HR.out.far (HR.out.choose_spec.ne_ HB.out (by decide)) _, hg', hc1, hc2, hb.setCell (by simp) _⟩
end Go.Proofs.YtihcellcdkhadaaGreat.PF

/-
  The reference's lists of a table: which are not free, which are an owner's. Nothing here is a statement of the seed.
-/
namespace Go.Proofs.YtihcellcdkhadaaGreat.PF
open Go.RowKit PM PR

theorem infoInt : (Tryz.prog.info? 3).map (fun i => (i.zero, i.size, i.bytes)) = some (some (.int .i64 0), 1, 8) := by kernel_rfl
def freeL (l : List Pg) : List Value := l.map fun p => .bool (p.st != 0)
theorem freeL_len (l : List Pg) : (freeL l).length = l.length := by simp [freeL]
theorem freeL_snoc (l : List Pg) (k : Nat) (h : k < l.length) : freeL (l.take (k + 1)) = freeL (l.take k) ++ [.bool ((l.getD k zero).st != 0)] := by
  rw [List.take_succ_eq_append_getElem h, getD_in h]
  simp only [freeL, List.map_append]
  rfl
theorem owns_base {w : World} {B B' : Nat} {e : TypeId} {size n : Nat} {v : Value} {xs : List Value} (h : w.ownsRow B e size v n xs) (hB : B' ≤ B) : w.ownsRow B' e size v n xs := by
  obtain ⟨h1, h2⟩ := h
  refine ⟨h1, ?_⟩
  rcases h2 with h2 | ⟨g, cap, cur, e, hg, h3⟩
  · exact Or.inl h2
  · exact Or.inr ⟨g, cap, cur, e, Nat.le_trans hB hg, h3⟩
theorem one_at (w : World) (v : Value) (t : TypeId) : ∀ j u, [v][j]? = some u → (w.alloc (.cells #[v] t)).cell? ((⟨w.heap.size, 0, none⟩ : Addr).add j) = some u := by
  intro j u hj
  match j, hj with
  | 0, hj =>
    simp at hj
    subst hj
    exact (Whole.new w t #[v]).cell 0
def RefUsedR (l : List Pg) (w : World) (e : Ending) (w' : World) : Prop := ∃ v, e = .returned v ∧ w'.ownsRow w.heap.size 4 1 v l.length (freeL l) ∧ Below w.heap.size w w'
theorem below_own {W w0 w1 : World} {B : Nat} {e : TypeId} {size n : Nat} {xs : List Value} {v : Value} (hb : Below W.heap.size W w0) (hg : w0.grownBy w1 v.ownBlock) (hown : w0.ownsRow B e size v n xs) (hB : W.heap.size ≤ B) : Below W.heap.size W w1 := by
  refine hb.grown hg hb.size (fun g hg' => ?_)
  rcases hown.2 with ⟨rfl, _⟩ | ⟨g', cap, cur, rfl, hg2, _⟩
  · simp [Value.ownBlock] at hg'
  · simp [Value.ownBlock] at hg'
    omega
def OfR (c : Pg → Bool) (l : List Pg) (w : World) (e : Ending) (w' : World) : Prop := ∃ v, e = .returned v ∧ w'.ownsRow w.heap.size 3 1 v (num c l) ((idx c l l.length).map fun (j : Nat) => .int .i64 (j : Int)) ∧ Below w.heap.size w w'
def idV (c : Pg → Bool) (l : List Pg) (k : Nat) : List Value := (idx c l k).map fun (j : Nat) => .int .i64 (j : Int)
theorem idV_yes {c : Pg → Bool} {l : List Pg} {k : Nat} (h : c (l.getD k zero) = true) : idV c l (k + 1) = idV c l k ++ [.int .i64 (k : Int)] := by
  unfold idV
  rw [idx_succ, if_pos h, List.map_append]
  rfl
theorem idV_no {c : Pg → Bool} {l : List Pg} {k : Nat} (h : c (l.getD k zero) = false) : idV c l (k + 1) = idV c l k := by
  unfold idV
  rw [idx_succ, h]
  simp
set_option maxHeartbeats 2000000 in
set_option maxRecDepth 4000 in
theorem of_any {g c : Nat} {l : List Pg} {w : World} (hr : Row w g l) (h256 : l.length ≤ 256) (hlc : l.length ≤ c) (hcm : c ≤ maxLen) (o a b : Int) (ha : a ≠ 0) (hbb : b ≠ 0) :
    Calls Tryz.prog 65 #[.agg #[.slice (some ⟨g, 0, none⟩) l.length c], .int .u16 o, .int .u8 a, .int .u8 b] w (OfR (ownS o a b) l w) := by
  obtain ⟨i0, hi, hz0, hz1, hz2⟩ := info_parts infoInt
  have hglt := hr.lt
  have HR := Lib.hid (hr.alloc (.cells #[.slice (some ⟨g, 0, none⟩) l.length c] 34))
  have HT := Lib.hid (Whole.new w 34 #[.slice (some ⟨g, 0, none⟩) l.length c])
  have HA := Lib.hid ha
  have HB := Lib.hid hbb
  clear hr ha hbb
  generalize hn : l.length = n at *
  have HN := Lib.hid hn
  clear hn
  unfold maxLen at hcm
  go_enter Tryz.func65, Tryz.ntmps65
  go_wp2_with fail
  generalize hW : w.alloc (.cells #[.slice (some ⟨g, 0, none⟩) n c] 34) = W at *
  have hWb : Below w.heap.size w W := by subst hW; exact below_new w _
  have hWs : W.heap.size = w.heap.size + 1 := by subst hW; simp
  have HWS := Lib.hid hWs
  clear hW hWs
  go_loopw [9, 10] (fun v i wr => ∃ k : Nat, k ≤ n ∧ i = .int .i64 (k : Int) ∧ Hid (wr.ownsRow (w.heap.size + 1) 3 1 v (rank (ownS o a b) l k) (idV (ownS o a b) l k)) ∧ Below W.heap.size W wr) (fun _ i _ => n - (intOf i).toNat)
  case atStart => exact ⟨0, by omega, rfl, Lib.hid (World.ownsRow_nil _ _ _ _), Below.refl _ _⟩
  case round =>
    obtain ⟨k, hk, rfl, hown, hb⟩ := hrel
    have hs : w.heap.size + 1 ≤ wr.heap.size := by have := hb.size; rw [HWS.out] at this; exact this
    have hT := (HT.out.belowS hb).cell 0
    simp only [List.getElem?_toArray, List.getElem?_cons_zero] at hT
    by_cases hlt : k < n
    · have hlt' : (k : Int) < n := by omega
      have hk0 : (0 : Int) ≤ k := by omega
      have hkl : k < l.length := by rw [HN.out]; exact hlt
      obtain ⟨c0, c1, c2, c3, c4⟩ := ((HR.out.belowS hb).five hkl rfl)
      have hrk := rank_le (ownS o a b) l k
      have hyes := Lib.hid (fun h => And.intro (rank_yes (c := ownS o a b) (l := l) (m := k) h) (idV_yes (c := ownS o a b) (l := l) (k := k) h))
      have hno := Lib.hid (fun h => And.intro (rank_no (c := ownS o a b) (l := l) (m := k) h) (idV_no (c := ownS o a b) (l := l) (k := k) h))
      clear hkl
      generalize l.getD k zero = q at *
      obtain ⟨st, ex, wr', ow, ep⟩ := q
      simp only at c0 c1 c2 c3 c4
      have hb1 := hb.alloc hb.size (.cells #[.int .u8 st, .bool ex, .bool wr', .int .u16 ow, .int .u64 ep] 107)
      have HO1 := Lib.hid (hown.out.alloc (.cells #[.int .u8 st, .bool ex, .bool wr', .int .u16 ow, .int .u64 ep] 107))
      by_cases hc : ow = o ∧ (st = a ∨ st = b)
      · have Y := hyes.out (by simpa [ownS] using hc)
        have HY := Lib.hid Y
        obtain ⟨rfl, hc2⟩ := hc
        have hst : (st == 0) = false := by
          have := HA.out; have := HB.out
          simp; omega
        clear Y hyes hno
        by_cases h1 : st = a
        · subst h1
          clear hc2
          go_wp2_with (at_builtin; refine wpList_append_own _ rfl _ _ 120 rfl (w.heap.size + 1) 3 i0 (.int .i64 0) 1 8 Tryz.underlying120 hi hz0 hz1 hz2 rfl (by decide) _ _ _ rfl (HO1.out.alloc _) ⟨wr.heap.size + 1, 0, none⟩ 1 1 [.int .i64 (k : Int)] rfl rfl (by have := one_at (wr.alloc (.cells #[.int .u8 st, .bool ex, .bool wr', .int .u16 ow, .int .u64 ep] 107)) (.int .i64 (k : Int)) 3; simpa using this) (by intro u hu; simp at hu; subst hu; rfl) (by unfold maxLen; omega) (by omega) (by simp; omega) ?_; intro v' w1 hown' hgrow _; have HO := Lib.hid hown'; have hb' := below_own (hb1.alloc hb1.size _) hgrow (HO1.out.alloc _) (by rw [HWS.out]; exact Nat.le_refl _); clear hown' hgrow)
          go_roundw
          case rel => exact ⟨k + 1, by omega, by go_num, Lib.hid (by rw [HY.out.1, HY.out.2]; exact HO.out), hb'⟩
          case measure => simp [intOf]; omega
        · have h1' : (st == a) = false := by simpa using h1
          obtain rfl : st = b := by rcases hc2 with h | h; exact absurd h h1; exact h
          clear hc2 h1
          go_wp2_with (at_builtin; refine wpList_append_own _ rfl _ _ 120 rfl (w.heap.size + 1) 3 i0 (.int .i64 0) 1 8 Tryz.underlying120 hi hz0 hz1 hz2 rfl (by decide) _ _ _ rfl (HO1.out.alloc _) ⟨wr.heap.size + 1, 0, none⟩ 1 1 [.int .i64 (k : Int)] rfl rfl (by have := one_at (wr.alloc (.cells #[.int .u8 st, .bool ex, .bool wr', .int .u16 ow, .int .u64 ep] 107)) (.int .i64 (k : Int)) 3; simpa using this) (by intro u hu; simp at hu; subst hu; rfl) (by unfold maxLen; omega) (by omega) (by simp; omega) ?_; intro v' w1 hown' hgrow _; have HO := Lib.hid hown'; have hb' := below_own (hb1.alloc hb1.size _) hgrow (HO1.out.alloc _) (by rw [HWS.out]; exact Nat.le_refl _); clear hown' hgrow)
          go_roundw
          case rel => exact ⟨k + 1, by omega, by go_num, Lib.hid (by rw [HY.out.1, HY.out.2]; exact HO.out), hb'⟩
          case measure => simp [intOf]; omega
      · have Y := hno.out (by simpa [ownS] using hc)
        have HY := Lib.hid Y
        clear Y hyes hno
        by_cases ho : ow = o
        · subst ho
          have h1 : ¬ st = a := fun h => hc ⟨rfl, Or.inl h⟩
          have h2 : ¬ st = b := fun h => hc ⟨rfl, Or.inr h⟩
          have h1' : (st == a) = false := by simpa using h1
          have h2' : (st == b) = false := by simpa using h2
          clear hc h1 h2
          by_cases h0 : st = 0
          · subst h0
            go_wp2_with fail
            go_roundw
            case rel => exact ⟨k + 1, by omega, by go_num, Lib.hid (by rw [HY.out.1, HY.out.2]; exact HO1.out), hb1⟩
            case measure => simp [intOf]; omega
          · have h0' : (st == 0) = false := by simpa using h0
            have h0n : (st != 0) = true := by simpa using h0
            clear h0
            go_wp2_with fail
            go_roundw
            case rel => exact ⟨k + 1, by omega, by go_num, Lib.hid (by rw [HY.out.1, HY.out.2]; exact HO1.out), hb1⟩
            case measure => simp [intOf]; omega
        · have ho' : (ow == o) = false := by simpa using ho
          clear hc ho
          go_wp2_with fail
          go_roundw
          case rel => exact ⟨k + 1, by omega, by go_num, Lib.hid (by rw [HY.out.1, HY.out.2]; exact HO1.out), hb1⟩
          case measure => simp [intOf]; omega
    · obtain rfl : k = n := by omega
      go_wp2_with fail
      go_ret
      refine ⟨_, rfl, ?_, hWb.trans (hb.mono (by rw [HWS.out]; omega))⟩
      have h := hown.out
      unfold num
      rw [HN.out]
      exact owns_base h (Nat.le_succ _)
end Go.Proofs.YtihcellcdkhadaaGreat.PF

/-
  Pages staged: the reference's. Nothing here is a statement of the seed.
-/
namespace Go.Proofs.YtihcellcdkhadaaGreat.PF
open Go.RowKit PM PR

/-- what a call of a reference's table tells: a table that lies where this one did (g), or in memory of its own -/
def Rets (g : Nat) (x : Int) (l' : List Pg) (w : World) (e : Ending) (w' : World) : Prop := ∃ g' c, e = .returned (.tuple #[.agg #[.slice (some ⟨g', 0, none⟩) l'.length c], .int .i64 x]) ∧ Row w' g' l' ∧ l'.length ≤ 256 ∧ l'.length ≤ c ∧ c ≤ maxLen ∧ Below w.heap.size w w' ∧ (g' = g ∨ w.heap.size ≤ g')
section
variable {g c : Nat} {l : List Pg} {w : World}
theorem refStage_arg (hr : Row w g l) (h256 : l.length ≤ 256) (hlc : l.length ≤ c) (hcm : c ≤ maxLen) (a n o : Int) (hx : o = 0 ∨ n < 1) :
    Calls Tryz.prog 18 #[.agg #[.slice (some ⟨g, 0, none⟩) l.length c], .int .i64 a, .int .i64 n, .int .u16 o] w (Rets g 2 l w) := by
  have HR := Lib.hid hr
  clear hr
  by_cases ho : o = 0
  · subst ho
    clear hx
    go_enter Tryz.func18, Tryz.ntmps18
    go_wp2_with fail
    exact bodyPost_ret (v := .tuple #[.agg #[.slice (some ⟨g, 0, none⟩) l.length c], .int .i64 2]) (by simp [results, Tryz.results18, go_sem]) rfl ⟨g, c, rfl, HR.out.belowS (two_new _ _ _), h256, hlc, hcm, two_new _ _ _, Or.inl rfl⟩
  · have ho' : (o == 0) = false := by simpa using ho
    have hn : n < 1 := by omega
    clear hx ho
    go_enter Tryz.func18, Tryz.ntmps18
    go_wp2_with fail
    exact bodyPost_ret (v := .tuple #[.agg #[.slice (some ⟨g, 0, none⟩) l.length c], .int .i64 2]) (by simp [results, Tryz.results18, go_sem]) rfl ⟨g, c, rfl, HR.out.belowS (two_new _ _ _), h256, hlc, hcm, two_new _ _ _, Or.inl rfl⟩
theorem refStage_range (hr : Row w g l) (h256 : l.length ≤ 256) (hlc : l.length ≤ c) (hcm : c ≤ maxLen) (a n o : Int) (ho : o ≠ 0) (hn : 1 ≤ n) (hx : a < 0 ∨ (l.length : Int) - n < a) :
    Calls Tryz.prog 18 #[.agg #[.slice (some ⟨g, 0, none⟩) l.length c], .int .i64 a, .int .i64 n, .int .u16 o] w (Rets g 11 l w) := by
  have HR := Lib.hid hr
  clear hr
  have ho' : (o == 0) = false := by simpa using ho
  have hm0 : (0 : Int) ≤ l.length := by omega
  have hm1 : (l.length : Int) ≤ 256 := by omega
  clear ho
  by_cases h0 : a < 0
  · clear hx
    go_enter Tryz.func18, Tryz.ntmps18
    go_wp2_with fail
    exact bodyPost_ret (v := .tuple #[.agg #[.slice (some ⟨g, 0, none⟩) l.length c], .int .i64 11]) (by simp [results, Tryz.results18, go_sem]) rfl ⟨g, c, rfl, HR.out.belowS (two_new _ _ _), h256, hlc, hcm, two_new _ _ _, Or.inl rfl⟩
  · have h0' : 0 ≤ a := by omega
    by_cases h1 : (l.length : Int) < a
    · clear hx
      go_enter Tryz.func18, Tryz.ntmps18
      go_wp2_with fail
      exact bodyPost_ret (v := .tuple #[.agg #[.slice (some ⟨g, 0, none⟩) l.length c], .int .i64 11]) (by simp [results, Tryz.results18, go_sem]) rfl ⟨g, c, rfl, HR.out.belowS (two_new _ _ _), h256, hlc, hcm, two_new _ _ _, Or.inl rfl⟩
    · have h2 : (l.length : Int) - a < n := by omega
      have h1' : a ≤ (l.length : Int) := by omega
      clear hx
      go_enter Tryz.func18, Tryz.ntmps18
      go_wp2_with fail
      exact bodyPost_ret (v := .tuple #[.agg #[.slice (some ⟨g, 0, none⟩) l.length c], .int .i64 11]) (by simp [results, Tryz.results18, go_sem]) rfl ⟨g, c, rfl, HR.out.belowS (two_new _ _ _), h256, hlc, hcm, two_new _ _ _, Or.inl rfl⟩
theorem ref_end {W wr : World} {x : Int} {q : Nat} (u : Value) (o : Obj) (HR : Row W g l) (hb : Below W.heap.size W wr) (hWb : Below w.heap.size w W) (hg : g < w.heap.size) (hq : w.heap.size ≤ q) (h256 : l.length ≤ 256) (hlc : l.length ≤ c) (hcm : c ≤ maxLen) :
    Rets g x l w (.returned (.tuple #[.agg #[.slice (some ⟨g, 0, none⟩) l.length c], .int .i64 x])) ((wr.setCell ⟨q, 0, none⟩ u).alloc o) := by
  have hB := ((hWb.trans (hb.mono hWb.size)).setCell (p := ⟨q, 0, none⟩) hq u)
  refine ⟨g, c, rfl, ((HR.belowS hb).far (by show g ≠ q; omega) u).alloc o, h256, hlc, hcm, hB.alloc hB.size o, Or.inl rfl⟩
set_option maxHeartbeats 4000000 in
theorem refStage_there (hr : Row w g l) (h256 : l.length ≤ 256) (hlc : l.length ≤ c) (hcm : c ≤ maxLen) (hf : FineL l) (A N : Nat) (o : Int) (ho : o ≠ 0) (hn : 1 ≤ N) (hAN : A + N ≤ l.length) :
    Calls Tryz.prog 18 #[.agg #[.slice (some ⟨g, 0, none⟩) l.length c], .int .i64 (A : Int), .int .i64 (N : Int), .int .u16 o] w (Rets g (stageE l A N o) (stageL l A N o) w) := by
  have hyes : Hid (∀ j, j < l.length → inWay l A N o j → stageE l A N o = 9 ∧ stageL l A N o = l) := Lib.hid fun j hj h => by
    have ht := (ths_iff hf ho hAN).2 ⟨j, hj, h⟩
    have e : stageE l A N o = 9 := by unfold stageE; rw [if_neg (by omega), if_neg (by omega), ht]; rfl
    exact ⟨e, by unfold stageL; rw [e]; rfl⟩
  have hno : Hid ((∀ j, j < l.length → ¬ inWay l A N o j) → stageE l A N o = 0 ∧ stageL l A N o = fill l A N (stg o)) := Lib.hid fun h => by
    have ht : ths l A N o = false := by
      cases ht : ths l A N o
      · rfl
      · obtain ⟨j, hj, h'⟩ := (ths_iff hf ho hAN).1 ht
        exact absurd h' (h j hj)
    have e : stageE l A N o = 0 := by unfold stageE; rw [if_neg (by omega), if_neg (by omega), ht]; rfl
    exact ⟨e, by unfold stageL; rw [e]; rfl⟩
  generalize stageE l A N o = X at *
  generalize stageL l A N o = L' at *
  have ho' : (o == 0) = false := by simpa using ho
  have HR := Lib.hid ((hr.alloc (.cells #[.slice (some ⟨g, 0, none⟩) l.length c] 34)).alloc (.cells #[.slice none 0 0] 34))
  have HT := Lib.hid ((Whole.new w 34 #[.slice (some ⟨g, 0, none⟩) l.length c]).alloc (.cells #[.slice none 0 0] 34))
  have HQ := Lib.hid (Whole.new (w.alloc (.cells #[.slice (some ⟨g, 0, none⟩) l.length c] 34)) 34 #[.slice none 0 0])
  simp only [World.size_alloc] at HQ
  have hglt := hr.lt
  clear hr hf ho
  generalize hnn : l.length = n at *
  have HN := Lib.hid hnn
  clear hnn
  unfold maxLen at hcm
  have hN1 : (1 : Int) ≤ N := by omega
  have hA0 : (0 : Int) ≤ A := by omega
  have hNm : (A : Int) + N ≤ n := by omega
  have hm1 : (n : Int) ≤ 256 := by omega
  have d1 : decide ((N : Int) < 1) = false := by simp; omega
  have d2 : decide ((A : Int) < 0) = false := by simp
  have d3 : decide ((n : Int) - A < N) = false := by simp; omega
  have d4 : decide (n < A) = false := by simp; omega
  go_enter Tryz.func18, Tryz.ntmps18
  go_wp2_with fail
  generalize hW : (w.alloc (.cells #[.slice (some ⟨g, 0, none⟩) n c] 34)).alloc (.cells #[.slice none 0 0] 34) = W at *
  have hWb : Below w.heap.size w W := by subst hW; exact two_new _ _ _
  have hWs : W.heap.size = w.heap.size + 1 + 1 := by subst hW; simp
  have HWS := Lib.hid hWs
  clear hW hWs
  go_loopw [10] (fun i wr => ∃ k : Nat, k ≤ n ∧ i = .int .i64 (k : Int) ∧ Below W.heap.size W wr ∧ Hid (∀ j, j < k → ¬ inWay l A N o j)) (fun i _ => n - (intOf i).toNat)
  case atStart => exact ⟨0, by omega, rfl, Below.refl _ _, Lib.hid fun j hj => by omega⟩
  case round =>
    obtain ⟨k, hk, rfl, hb, hnone⟩ := hrel
    have hs : w.heap.size + 1 + 1 ≤ wr.heap.size := by have := hb.size; rw [HWS.out] at this; exact this
    have hs1 : w.heap.size + 1 < wr.heap.size := by omega
    have hs0 : w.heap.size < wr.heap.size := by omega
    have hT := (HT.out.belowS hb).cell 0
    have HQ2 := Lib.hid (HQ.out.belowS hb)
    have hq := HQ2.out.cell 0
    have hqf := HQ2.out.frozen 0
    simp only [List.getElem?_toArray, List.getElem?_cons_zero] at hT hq
    by_cases hlt : k < n
    · have hlt' : (k : Int) < n := by omega
      have hk0 : (0 : Int) ≤ k := by omega
      have hkl : k < l.length := by rw [HN.out]; exact hlt
      obtain ⟨c0, c1, c2, c3, c4⟩ := ((HR.out.belowS hb).five hkl rfl)
      have hin : Hid (inWay l A N o k ↔ (l.getD k zero).st ≠ 0 ∧ ((l.getD k zero).ow = o ∨ (A ≤ k ∧ k < A + N))) := Lib.hid Iff.rfl
      clear hkl
      generalize l.getD k zero = q at *
      obtain ⟨st, ex, wr', ow, ep⟩ := q
      simp only at c0 c1 c2 c3 c4 hin
      have hb1 := hb.alloc hb.size (.cells #[.int .u8 st, .bool ex, .bool wr', .int .u16 ow, .int .u64 ep] 107)
      by_cases h0 : st = 0
      · subst h0
        have HNO : Hid (¬ inWay l A N o k) := Lib.hid (fun h => (hin.out.1 h).1 rfl)
        go_wp2_with fail
        go_roundw
        case rel => exact ⟨k + 1, by omega, by go_num, hb1, Lib.hid fun j hj => by
          by_cases e : j = k
          · subst e; exact HNO.out
          · exact hnone.out j (by omega)⟩
        case measure => simp [intOf]; omega
      · have h0' : (st == 0) = false := by simpa using h0
        have h0n : (st != 0) = true := by simpa using h0
        have H0 := Lib.hid h0
        clear h0
        by_cases ho : ow = o
        · subst ho
          have HIN : Hid (inWay l A N ow k) := Lib.hid (hin.out.2 ⟨H0.out, Or.inl rfl⟩)
          go_wp2_with fail
          obtain ⟨rfl, rfl⟩ := hyes.out k hlt (HIN.out)
          refine bodyPost_ret (v := .tuple #[.agg #[.slice (some ⟨g, 0, none⟩) n c], .int .i64 9]) (by simp [results, Tryz.results18, go_sem, hq, hqf, hs1]) rfl ?_
          have E := ref_end (x := 9) (w := w) (.slice (some ⟨g, 0, none⟩) n c) (.cells #[.int .u8 st, .bool ex, .bool wr', .int .u16 ow, .int .u64 ep] 107) HR.out hb hWb hglt (Nat.le_succ _) (by rw [HN.out]; exact h256) (by rw [HN.out]; exact hlc) (by unfold maxLen; exact hcm)
          rw [HN.out] at E
          exact E
        · have ho1 : (ow == o) = false := by simpa using ho
          by_cases h1 : k < A
          · have h1' : (k : Int) < A := by omega
            have HNO : Hid (¬ inWay l A N o k) := Lib.hid (fun h => (hin.out.1 h).2.elim ho (fun h => by omega))
            clear ho
            go_wp2_with fail
            go_roundw
            case rel => exact ⟨k + 1, by omega, by go_num, hb1, Lib.hid fun j hj => by
              by_cases e : j = k
              · subst e; exact HNO.out
              · exact hnone.out j (by omega)⟩
            case measure => simp [intOf]; omega
          · have h1' : (A : Int) ≤ k := by omega
            by_cases h2 : k < A + N
            · have h2' : (k : Int) < A + N := by omega
              have HIN : Hid (inWay l A N o k) := Lib.hid (hin.out.2 ⟨H0.out, Or.inr ⟨by omega, h2⟩⟩)
              clear ho
              go_wp2_with fail
              obtain ⟨rfl, rfl⟩ := hyes.out k hlt (HIN.out)
              refine bodyPost_ret (v := .tuple #[.agg #[.slice (some ⟨g, 0, none⟩) n c], .int .i64 9]) (by simp [results, Tryz.results18, go_sem, hq, hqf, hs1]) rfl ?_
              have E := ref_end (x := 9) (w := w) (.slice (some ⟨g, 0, none⟩) n c) (.cells #[.int .u8 st, .bool ex, .bool wr', .int .u16 ow, .int .u64 ep] 107) HR.out hb hWb hglt (Nat.le_succ _) (by rw [HN.out]; exact h256) (by rw [HN.out]; exact hlc) (by unfold maxLen; exact hcm)
              rw [HN.out] at E
              exact E
            · have h2' : (A : Int) + N ≤ k := by omega
              have HNO : Hid (¬ inWay l A N o k) := Lib.hid (fun h => (hin.out.1 h).2.elim ho (fun h => by omega))
              clear ho
              go_wp2_with fail
              go_roundw
              case rel => exact ⟨k + 1, by omega, by go_num, hb1, Lib.hid fun j hj => by
                by_cases e : j = k
                · subst e; exact HNO.out
                · exact hnone.out j (by omega)⟩
              case measure => simp [intOf]; omega
    · obtain rfl : k = n := by omega
      obtain ⟨rfl, rfl⟩ := hno.out hnone.out
      have C := Lib.hid (copied_any (c := c) (HR.out.belowS hb) (by rw [HN.out]; exact h256))
      rw [HN.out] at C
      have hwr : Below w.heap.size w wr := hWb.trans (hb.mono hWb.size)
      clear hyes hno hnone
      go_wp2_with (go_at_call 56; (with_reducible refine C.out.mono ?_); rintro e w2 ⟨g', c', rfl, hr2, hg', hc1, hc2, hb2⟩; have HR2 := Lib.hid hr2; have hwb2 := hwr.trans (hb2.mono hwr.size); have hs2 := hb2.size; have HQ3 := Lib.hid (HQ2.out.belowS hb2); clear hr2)
      go_loopw [13] (fun i wz => ∃ m : Nat, m ≤ N ∧ i = .int .i64 ((A + m : Nat) : Int) ∧ Below w.heap.size w wz ∧ Hid (Row wz g' (fill l A m (stg o))) ∧ Hid (Whole wz w2.heap.size 34 #[.slice (some ⟨g', 0, none⟩) l.length c']) ∧ Hid (Whole wz (w.heap.size + 1) 34 #[.slice none 0 0])) (fun i _ => A + N - (intOf i).toNat)
      case atStart => exact ⟨0, by omega, rfl, hwb2.alloc hwb2.size _, Lib.hid (by rw [fill_zero]; exact HR2.out.alloc _), Lib.hid (Whole.new _ _ _), Lib.hid (HQ3.out.alloc _)⟩
      case round =>
        obtain ⟨m, hm, rfl, hu, hrow, hX, hQ⟩ := hrel
        have x0 := hX.out.cell 0
        simp only [List.getElem?_toArray, List.getElem?_cons_zero] at x0
        by_cases hlm : m < N
        · have hlm' : ((A + m : Nat) : Int) < (A : Int) + N := by omega
          have hm0 : (0 : Int) ≤ ((A + m : Nat) : Int) := by omega
          have hml : A + m < (fill l A m (stg o)).length := by rw [fill_len, HN.out]; omega
          have hmk : ((A + m : Nat) : Int) < l.length := by rw [HN.out]; omega
          have hlk : l.length ≤ 256 := by rw [HN.out]; exact h256
          obtain ⟨⟨v0, v1, v2, v3, v4, g0, g1, g2, g3, g4⟩, f0, f1, f2, f3, f4⟩ := hrow.out.there hml
          have P := Lib.hid (hrow.out.put hml (stg o))
          rw [fill_set (by rw [HN.out]; omega)] at P
          have hgB : w.heap.size ≤ g' := by omega
          have hF := Lib.hid (Fr.put (g := g') (Fr.refl (fun i => i = g') wr) (Or.inl rfl) ((A + m) * 5) 1 false false o 0)
          have nX : w2.heap.size ≠ g' := by have := HR2.out.lt; omega
          have nQ : w.heap.size + 1 ≠ g' := by omega
          have hX2 := Lib.hid (hX.out.fr hF.out nX)
          have hQ2 := Lib.hid (hQ.out.fr hF.out nQ)
          have hu2 := Lib.hid (Below.fr hu hF.out hu.size (by rintro i rfl; exact hgB))
          clear hml nX nQ
          generalize hAm : A + m = B at *
          have HAM := Lib.hid hAm
          clear hAm
          go_wp2_with fail
          rw [put_eq]
          clear g0 g1 g2 g3 g4 f0 f1 f2 f3 f4
          go_roundw
          case rel => exact ⟨m + 1, by omega, by rw [show A + (m + 1) = B + 1 by rw [← HAM.out]; omega]; go_num, hu2.out, P, hX2, hQ2⟩
          case measure => simp [intOf]; omega
        · obtain rfl : m = N := by omega
          have q0 := hQ.out.cell 0
          have qf := hQ.out.frozen 0
          simp only [List.getElem?_toArray, List.getElem?_cons_zero] at q0
          have ql := hQ.out.lt
          go_wp2_with fail
          refine bodyPost_ret (v := .tuple #[.agg #[.slice (some ⟨g', 0, none⟩) l.length c'], .int .i64 0]) (by simp [results, Tryz.results18, go_sem, q0, qf, ql]) rfl ?_
          refine ⟨g', c', by rw [fill_len], hrow.out.far (by show g' ≠ w.heap.size + 1; omega) _, by rw [fill_len, HN.out]; exact h256, by rw [fill_len]; exact hc1, hc2, hu.setCell (by simp) _, Or.inr (by omega)⟩
end
end Go.Proofs.YtihcellcdkhadaaGreat.PF
