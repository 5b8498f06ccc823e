/-
  The reference for layer 2: the runes of a text as a list, stems, versions, what stands about the @.
-/
import Derived.Test.YtleggfofgpiabaaGreatNameN
import Derived.Laws.AppendOwn
set_option linter.unusedSimpArgs false
set_option linter.unusedVariables false
namespace Go.Proofs.YtleggfofgpiabaaGreat.NF
open Go.RowKit NM

theorem below_drewN {B : Nat} {a w : World} (h : Below B a w) (n : Nat) : Below B a (w.drewN n) := ⟨h.os, h.tape, h.output, h.size, h.block⟩
def Blk (w : World) (g : Nat) (t : TypeId) (cs : Array Value) : Prop := w.heap[g]? = some (.cells cs t (0, 0))
theorem Blk.cell {w : World} {g : Nat} {t : TypeId} {cs : Array Value} (h : Blk w g t cs) (i : Nat) : w.cell? ⟨g, i, none⟩ = cs[i]? := cell_of_row w g i cs t (0, 0) h
theorem Blk.new (w : World) (t : TypeId) (cs : Array Value) : Blk (w.alloc (.cells cs t)) w.heap.size t cs := heap_alloc_new w _
theorem infoInt : (Tryz.prog.info? 3).map (fun i => (i.zero, i.size, i.bytes)) = some (some (.int .i64 0), 1, 8) := by kernel_rfl
def strLen : Value → Nat
  | .string s => s.size
  | _ => 0
def ints (xs : List Int) : List Value := xs.map (Value.int .i64)
/-- a call told a list of numbers of its own -/
def IsList (B : Nat) (xs : List Int) (w : World) (e : Ending) (w' : World) : Prop :=
  ∃ v, e = .returned v ∧ w'.ownsRow B 3 1 v xs.length (ints xs) ∧ Below B w w'
theorem bs_step (s : ByteArray) (k : Nat) : (s.extract k s.size).data.toList = s.data.toList.drop k := by rw [extract_from]; rfl

theorem refList_any (s : ByteArray) (w : World) (hs : s.size ≤ 2097152) :
    Calls Tryz.prog 84 #[.string s] w (IsList w.heap.size (runes s.data.toList) w) := by
  obtain ⟨i0, hi, hz0, hz1, hz2⟩ := info_parts infoInt
  have HS := Lib.hid hs
  clear hs
  go_enter Tryz.func84, Tryz.ntmps84
  go_wp2_with fail
  go_loopw [0, 3] (fun a v wr => ∃ (t : ByteArray) (xs : List Int) (q : Value), a = .string t ∧ q = v ∧ wr.ownsRow w.heap.size 3 1 q xs.length (ints xs) ∧ Below w.heap.size w wr ∧ Hid (xs ++ runes t.data.toList = runes s.data.toList) ∧ Hid (xs.length + t.size ≤ s.size)) (fun a _ _ => strLen a)
  case atStart => exact ⟨s, [], _, rfl, rfl, World.ownsRow_nil _ _ _ _, Below.refl _ _, by show _ = _; rfl, by show _ ≤ _; simp⟩
  case round =>
    obtain ⟨t, xs, q, rfl, rfl, hown, hw, HX, HL⟩ := hrel
    by_cases hlt : 0 < t.size
    · have hlt' : (0 : Int) < t.size := by omega
      have hwd := width_at t.data.toList 0 (by rw [size_list]; omega)
      rw [List.drop_zero, size_list] at hwd
      obtain ⟨hwd1, hwd2, hwd3⟩ := hwd
      have ST := Lib.hid (runes_at t.data.toList 0 (by rw [size_list]; omega))
      have hn8 : (xs.length + 1) * 8 ≤ 140737488355328 := by have := HL.out; have := HS.out; omega
      have hnm : xs.length + 1 ≤ maxLen := by unfold maxLen; omega
      obtain ⟨r, Hr⟩ : ∃ r, Hid (r = (dec t.data.toList).1) := ⟨_, Lib.hid rfl⟩
      obtain ⟨k, hk⟩ : ∃ k, k = (dec t.data.toList).2 := ⟨_, rfl⟩
      have C0 : Calls Tryz.prog 96 #[.string t] wr fun e w' => e = .returned (.tuple #[.int .i64 r, .int .i64 (k : Nat)]) ∧ w'.ownsRow w.heap.size 3 1 q xs.length (ints xs) ∧ Below w.heap.size w w' :=
        (one_any t wr hlt).mono fun e w' ⟨he, m, hm⟩ => by subst hm; exact ⟨by rw [he, Hr.out, hk], hown, below_drewN hw m⟩
      have C := Lib.hid C0
      clear C0 hown hw
      rw [← hk] at hwd1 hwd2 hwd3
      have Hk := Lib.hid hk
      clear hk
      have hk0 : (0 : Int) ≤ (k : Int) := by omega
      have hk1 : (k : Int) ≤ (t.size : Int) := by omega
      go_wp2_with (first | (go_at_call 96; refine C.out.mono ?_; rintro e W1 ⟨rfl, hown, hw⟩) | (at_builtin; refine wpList_append_own _ rfl _ _ 116 rfl w.heap.size 3 i0 (.int .i64 0) 1 8 Tryz.underlying116 hi hz0 hz1 hz2 rfl (by decide) _ _ _ rfl (hown.alloc _) ⟨W1.heap.size, 0, none⟩ 1 1 [.int .i64 r] rfl rfl ?c1 ?c2 hnm hn8 ?c5 ?_))
      case c1 =>
        intro j u hu
        cases j with
        | zero => simp at hu; subst hu; exact (Blk.new _ _ _).cell 0
        | succ j => simp at hu
      case c2 => intro u hu; simp at hu; subst hu; rfl
      case c5 => have := hw.size; simp; omega
      intro v' w1 hown1 hgrow _
      go_wp2_with fail
      go_roundw
      case rel =>
        refine ⟨_, xs ++ [r], _, rfl, rfl, ?_, ?_, ?_, ?_⟩
        · simpa [ints] using hown1
        · exact (hw.alloc hw.size _).grown hgrow (Nat.le_trans hw.size (by simp)) (fun g hg => (hown.lt g hg).1)
        · show _ = _
          have := ST.out
          simp only [List.drop_zero, Nat.zero_add] at this
          rw [bs_step, ← HX.out, this, Hr.out, Hk.out]
          simp
        · show _ ≤ _
          have := HL.out
          rw [extract_from, bs_size, List.length_drop, size_list]
          simp
          omega
      case measure =>
        simp only [strLen]
        rw [extract_from, bs_size, List.length_drop, size_list]
        omega
    · have hn : ¬ (0 : Int) < t.size := by omega
      go_wp2_with fail
      go_ret
      have ht : t.data.toList = [] := List.length_eq_zero_iff.1 (by rw [size_list]; omega)
      have e := HX.out
      rw [ht, runes_nil, List.append_nil] at e
      exact ⟨_, rfl, by rw [← e]; exact hown, hw⟩

theorem refRunes_any (s : ByteArray) (w : World) (hs : s.size ≤ 2097152) :
    Calls Tryz.prog 59 #[.string s] w fun e w' => e = .returned (.int .i64 ((runes s.data.toList).length : Nat)) ∧ Below w.heap.size w w' := by
  have C0 : Calls Tryz.prog 84 #[.string s] w fun e w' => ∃ b c, e = .returned (.slice b (runes s.data.toList).length c) ∧ Below w.heap.size w w' :=
    (refList_any s w hs).mono fun e w' ⟨v, he, hown, hb⟩ => by
      subst he
      rcases hown.2 with ⟨rfl, h0⟩ | ⟨g, cap, cur, rfl, hg, hcell, hcap, hcm, hsz, hcur⟩
      · exact ⟨none, 0, by rw [h0], hb⟩
      · exact ⟨_, _, rfl, hb⟩
  have C := Lib.hid C0
  clear C0
  go_enter Tryz.func59, Tryz.ntmps59
  go_wp2_with (go_at_call 84; refine C.out.mono ?_; rintro e w' ⟨b, c, rfl, hb⟩)
  go_ret
  exact ⟨rfl, hb⟩
theorem stem_step (xs : List Int) (k : Nat) (h : k < xs.length) : (xs.drop k).all bodyB = (bodyB (xs.getD k 0) && (xs.drop (k + 1)).all bodyB) := by
  rw [List.drop_eq_getElem_cons h, List.all_cons, List.getD_eq_getElem?_getD, List.getElem?_eq_getElem h]
  rfl
theorem ints_at (xs : List Int) (k : Nat) (h : k < xs.length) : (ints xs)[k]? = some (.int .i64 (xs.getD k 0)) := by
  unfold ints
  rw [List.getElem?_map, List.getD_eq_getElem?_getD, List.getElem?_eq_getElem h]
  rfl
theorem refStem_any (s : ByteArray) (w : World) (hs : s.size ≤ 2097152) :
    Calls Tryz.prog 57 #[.string s] w fun e w' => e = .returned (.bool (stemL (runes s.data.toList))) ∧ Below w.heap.size w w' := by
  have C := Lib.hid (refList_any s w hs)
  generalize runes s.data.toList = xs at C
  clear hs
  go_enter Tryz.func57, Tryz.ntmps57
  go_wp2_with fail
  refine C.out.mono ?_
  rintro e w1 ⟨v, rfl, hown, hb⟩
  rcases hown.2 with ⟨rfl, h0⟩ | ⟨g, cap, cur, rfl, hg, hcell, hcap, hcm, hsz, hcur⟩
  · have hx : xs = [] := List.length_eq_zero_iff.1 h0
    subst hx
    go_wp2
    go_ret
    exact ⟨rfl, hb⟩
  · by_cases h0 : xs = []
    · subst h0
      go_wp2
      go_ret
      exact ⟨rfl, hb⟩
    · have hpos : 0 < xs.length := List.length_pos_iff.2 h0
      have c0 := (hown.cellAt 0 (by omega)).trans (ints_at xs 0 hpos)
      have HC := Lib.hid (fun (k : Nat) (hk : k < xs.length) => (hown.cellAt k (by omega)).trans (ints_at xs k hk))
      have SS := Lib.hid (fun (k : Nat) (hk : k < xs.length) => stem_step xs k hk)
      have E0 : Hid (stemL xs = (letterB (xs.getD 0 0) && (xs.drop 1).all bodyB)) := by
        cases xs with
        | nil => exact absurd rfl h0
        | cons x t => rfl
      have E1 : Hid (∀ k, xs.length ≤ k → (xs.drop k).all bodyB = true) := fun k hk => by rw [List.drop_eq_nil_of_le hk]; rfl
      clear h0 hown hcell hsz hcur
      unfold maxLen at hcm
      generalize hn : xs.length = n at *
      clear hn
      obtain ⟨S, HXS⟩ : ∃ S, Hid (stemL xs = S) := ⟨_, Lib.hid rfl⟩
      rw [HXS.out] at E0
      have hpos' : (0 : Int) < n := by omega
      have hn0 : ((n : Int) == 0) = false := by simp; omega
      have L0 := Lib.hid (refLetter_any (xs.getD 0 0) w1)
      by_cases hl : letterB (xs.getD 0 0) = true
      · rw [hl] at L0 E0
        clear hl
        go_wp2_with (first | (go_at_call 85; refine L0.out.mono ?_; rintro e w' ⟨rfl, rfl⟩))
        clear c0
        go_loop [4] (fun i => ∃ k : Nat, k ≤ n ∧ i = .int .i64 k ∧ Hid (S = (xs.drop k).all bodyB)) (fun i => n - (intOf i).toNat)
        case atStart => exact ⟨1, by omega, rfl, E0.out.trans (Bool.true_and _)⟩
        case round =>
          obtain ⟨k, hk, rfl, HK⟩ := hrel
          by_cases hlt : k < n
          · have hlt' : (k : Int) < n := by omega
            have ck := HC.out k hlt
            have K := HK.out
            rw [SS.out k hlt] at K
            clear HK
            generalize xs.getD k 0 = x at *
            have D := Lib.hid (refDigit_any x w1)
            have L := Lib.hid (refLetter_any x w1)
            have HK := Lib.hid K
            clear K
            have kn : (k : Int) ≤ 9223372036854775806 := by omega
            cases hbl : letterB x with
            | true =>
              rw [hbl] at L
              have K2 : Hid (S = (xs.drop (k + 1)).all bodyB) := by have := HK.out; rw [show bodyB x = true by unfold bodyB; rw [hbl]; rfl, Bool.true_and] at this; exact this
              clear hbl
              go_wp2_with (first | (go_at_call 85; refine L.out.mono ?_; rintro e w' ⟨rfl, rfl⟩))
              go_roundw
              case rel => exact ⟨k + 1, by omega, by go_num, K2⟩
              case measure => simp [intOf]; omega
            | false =>
              rw [hbl] at L
              cases hbd : digitB x with
              | true =>
                rw [hbd] at D
                have K2 : Hid (S = (xs.drop (k + 1)).all bodyB) := by have := HK.out; rw [show bodyB x = true by unfold bodyB; rw [hbl, hbd]; rfl, Bool.true_and] at this; exact this
                clear hbl hbd
                go_wp2_with (first | (go_at_call 85; refine L.out.mono ?_; rintro e w' ⟨rfl, rfl⟩) | (go_at_call 86; refine D.out.mono ?_; rintro e w' ⟨rfl, rfl⟩))
                go_roundw
                case rel => exact ⟨k + 1, by omega, by go_num, K2⟩
                case measure => simp [intOf]; omega
              | false =>
                rw [hbd] at D
                by_cases h95 : x = 95
                · have K2 : Hid (S = (xs.drop (k + 1)).all bodyB) := by have := HK.out; rw [show bodyB x = true by unfold bodyB; simp [h95], Bool.true_and] at this; exact this
                  clear hbl hbd
                  have h95' : (x != 95) = false := by simp [h95]
                  clear h95
                  go_wp2_with (first | (go_at_call 85; refine L.out.mono ?_; rintro e w' ⟨rfl, rfl⟩) | (go_at_call 86; refine D.out.mono ?_; rintro e w' ⟨rfl, rfl⟩))
                  go_roundw
                  case rel => exact ⟨k + 1, by omega, by go_num, K2⟩
                  case measure => simp [intOf]; omega
                · have K2 : Hid (S = false) := by have := HK.out; rw [show bodyB x = false by unfold bodyB; rw [hbl, hbd]; simpa using h95, Bool.false_and] at this; exact this
                  clear hbl hbd
                  have h95' : (x != 95) = true := by simpa using h95
                  clear h95
                  go_wp2_with (first | (go_at_call 85; refine L.out.mono ?_; rintro e w' ⟨rfl, rfl⟩) | (go_at_call 86; refine D.out.mono ?_; rintro e w' ⟨rfl, rfl⟩))
                  go_ret
                  exact ⟨by rw [HXS.out, K2.out]; rfl, hb⟩
          · have hnlt : ¬ (k : Int) < n := by omega
            have K2 : Hid (S = true) := HK.out.trans (E1.out k (by omega))
            go_wp2
            go_ret
            exact ⟨by rw [HXS.out, K2.out]; rfl, hb⟩
      · rw [show letterB (xs.getD 0 0) = false by simpa using hl] at L0 E0
        clear hl
        go_wp2_with (first | (go_at_call 85; refine L0.out.mono ?_; rintro e w' ⟨rfl, rfl⟩))
        go_ret
        exact ⟨by rw [HXS.out, E0.out]; rfl, hb⟩
end Go.Proofs.YtleggfofgpiabaaGreat.NF
