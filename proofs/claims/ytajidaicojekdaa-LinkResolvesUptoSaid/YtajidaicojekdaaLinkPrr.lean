/-
  The program's Resolve (written over a stand-in, ahead of the landing). Nothing here is a statement of the seed.
-/
import Derived.Test.YtajidaicojekdaaLinkTab
set_option linter.unusedSimpArgs false
set_option linter.unusedVariables false
namespace Go.Proofs.Ytajidaicojekdaa.KP
open Go.RowKit WM NR OM OR VM YM RM RF KM SM SR SF SP KO KT KF
set_option maxHeartbeats 4000000
set_option maxRecDepth 10000
section
variable {w : World} {S : Nat → Prop} {v : Value} {t : Tb} {na : Option Addr} {nn nc : Nat} {ns : List (List UInt8)}
theorem resolve_any (h : PT S w v t) (hg : SM.Good t) (hb : t.mods.length ≤ 10000 ∧ t.L.length ≤ 80000) (hn0 : Reads (fun g => ¬ S g ∧ g < w.heap.size) w (.slice na nn nc) (strs ns)) (hs : ∀ s ∈ ns, s.length ≤ 9223372036854775807) (hnn : nn ≤ 100) :
    Calls Try.prog 13 #[v, .slice na nn nc] w fun e w' => ∃ q, e = .returned (.tuple #[q, .int .i64 (rsE t.L ns)]) ∧ IsRs w.heap.size w' q t.L ns ∧ Below w.heap.size w w' := by
  have hn : Reads (· < w.heap.size) w (.slice na nn nc) (strs ns) := hn0.mono fun g hg => hg.2
  have hl := reads_len hn
  rw [strs_len] at hl
  obtain ⟨hl1, hl2, hl3⟩ := hl
  obtain ⟨va, rfl⟩ := h.form
  have CF := Lib.hid (fun (u : World) (hbl : Below w.heap.size w u) (s : List UInt8) (hz : s.length ≤ 9223372036854775807) => find_any (h.keep hbl.size fun g hg => hbl.block g (h.lt g hg)) hg hb s hz)
  have HN := Lib.hid hn
  have HLN := Lib.hid hl1
  have HS := Lib.hid hs
  have hnc : (nn : Int) ≤ nc := by omega
  have HG := Lib.hid hg
  obtain ⟨i0, hi, hz0, hz1, hz2⟩ := info_parts infoWord
  obtain ⟨RE, hRE⟩ : ∃ q, rsE t.L ns = q := ⟨_, rfl⟩
  rw [hRE]
  have HRE := Lib.hid hRE
  clear h hn hn0 hl1 hl2 hl3 hg hRE hs
  go_enter Try.func13, Try.ntmps13
  go_wp2_with fail
  go_loopw [6, 15] (fun o i wr => ∃ (k : Nat) (q : Value), k ≤ nn ∧ i = .int .i64 (k : Int) ∧ o = q ∧ wr.ownsRow w.heap.size 46 1 q k (u32s (rsL t.L (ns.take k))) ∧ Hid (∀ j, j < k → (findM t.L (ns.getD j [])).2 = 0) ∧ Below w.heap.size w wr) (fun o i _ => nn - (intOf i).toNat)
  case atStart => exact ⟨0, _, by omega, rfl, rfl, World.ownsRow_nil _ _ _ _, Lib.hid (fun j hj => by omega), Below.refl _ _⟩
  case round =>
    obtain ⟨k, q, hk, rfl, rfl, hown, hp, hbl⟩ := hrel
    by_cases hlt : k < nn
    · have hlt' : (k : Int) < nn := by omega
      have hkl : k < ns.length := by rw [HLN.out]; exact hlt
      obtain ⟨g, off, rfl, _, e0⟩ := reads_at HN.out hbl hlt
      rw [strs_at hkl] at e0
      have HBW := Lib.hid hbl
      have CFk := Lib.hid (CF.out wr hbl (ns.getD k []) (HS.out _ (VM.mem_getD hkl)))
      have HFB := Lib.hid (find_bd HG.out (n := ns.getD k []))
      have HSN := Lib.hid (fun (X : Int) h1 h2 => rsL_snoc (L := t.L) hkl (X := X) h1 h2)
      have HST := Lib.hid (fun h => rsE_stop (L := t.L) hkl h)
      obtain ⟨⟨⟨nm0, md0, eg, ei, er⟩, fE⟩, hfd⟩ : ∃ q, findM t.L (ns.getD k []) = q := ⟨_, rfl⟩
      have HP2 : Hid (fE = 0 → ∀ j, j < k + 1 → (findM t.L (ns.getD j [])).2 = 0) := Lib.hid (fun hf j hj => by
        by_cases h' : j < k
        · exact hp.out j h'
        · rw [show j = k by omega, hfd]; exact hf)
      have HFE : Hid (fE ≠ 0 → RE = 23) := Lib.hid (fun hf => by rw [← HRE.out]; exact HST.out (by rw [hfd]; exact hf))
      rw [hfd] at CFk
      have HF0 : Hid (fE = 0 → (0 ≤ eg ∧ eg ≤ 7) ∧ (0 ≤ ei ∧ ei ≤ 7) ∧ u32s (rsL t.L (ns.take k)) ++ [Value.int .u32 (8 * eg + ei)] = u32s (rsL t.L (ns.take (k + 1)))) := Lib.hid (fun hf => by
        have h := HFB.out (by rw [hfd]; exact hf)
        rw [hfd] at h
        exact ⟨h.1, h.2, HSN.out _ (by rw [hfd]; rfl) (by have := h.1; have := h.2; simp only at *; omega)⟩)
      clear HFB HSN HST hfd hp hkl hbl
      have CFk : Hid (Calls Try.prog 39 #[.pointer (some va), .string (bs (ns.getD k []))] wr fun e w' => e = .returned (.tuple #[.agg #[.string (bs nm0), .string (bs md0), .int .i64 eg, .int .i64 ei, .int .i64 er], .int .i64 fE]) ∧ Below wr.heap.size wr w') := CFk
      have HOW := Lib.hid hown
      clear hown
      generalize bs nm0 = b1 at *
      generalize bs md0 = b2 at *
      generalize bs (ns.getD k []) = S0 at *
      go_upto_region 8 with (go_at_call 39; (with_reducible refine (CFk.out).mono ?_); rintro e w10 ⟨rfl, hB⟩; have HB10 := Lib.hid hB; clear hB)
      have RX8 := Whole.new w10 93 #[.string b1, .string b2, .int .i64 eg, .int .i64 ei, .int .i64 er]
      have b8 := below_new w10 (.cells #[.string b1, .string b2, .int .i64 eg, .int .i64 ei, .int .i64 er] 93)
      have HB8 := Lib.hid (HB10.out.trans (b8.mono HB10.out.size))
      clear b8 CFk
      generalize w10.alloc (.cells #[.string b1, .string b2, .int .i64 eg, .int .i64 ei, .int .i64 er] 93) = w11 at *
      obtain ⟨y0, y1, y2, y3, y4⟩ := five_cells RX8
      have yl := RX8.lt
      have hown := own_kept HOW.out HB8.out
      by_cases hf : fE = 0
      · obtain ⟨hb1, hb2, hb3⟩ := HF0.out hf
        have CS := Lib.hid (slot_any b1 b2 eg ei er hb1 hb2)
        have hp2 := Lib.hid (HP2.out hf)
        have hnb : (k + 1) * 4 ≤ 140737488355328 := by omega
        have hnm : k + 1 ≤ maxLen := by unfold maxLen; omega
        subst hf
        go_wp2_with (first | (go_at_call 40; (with_reducible refine (CS.out _).mono ?_); rintro e w12 ⟨rfl, hb12⟩; have hown := owns_below hown hb12; have HB12 := Lib.hid (HB8.out.trans (hb12.mono HB8.out.size)); clear hb12) | (at_builtin; refine wpList_append_own _ rfl _ _ 36 rfl w.heap.size 46 i0 (.int .u32 0) 1 4 Try.underlying36 hi hz0 hz1 hz2 rfl (by decide) _ _ _ rfl (hown.alloc _) ⟨w12.heap.size, 0, none⟩ 1 1 [.int .u32 (8 * eg + ei)] rfl rfl ?c1 ?c2 hnm hnb ?c5 ?_))
        case c1 => exact oneC _ _ _
        case c2 => intro u hu; simp at hu; subst hu; rfl
        case c5 => have := HB12.out.size; have := HBW.out.size; simp; omega
        intro v' w4 hown4 hgrow _
        have hbw := HBW.out.trans (HB12.out.mono HBW.out.size)
        have hB4 := (hbw.alloc hbw.size (.cells #[.int .u32 (8 * eg + ei)] 46)).grown hgrow (Nat.le_trans hbw.size (by simp)) (fun g hg => (hown.lt g hg).1)
        try rw [hb3] at hown4
        go_wp2_with fail
        go_roundw
        case rel => exact ⟨k + 1, _, by omega, by go_num, rfl, hown4, hp2, hB4⟩
        case measure => simp [intOf]; omega
      · have hr := HFE.out hf
        have hf' : (fE != 0) = true := by simpa using hf
        have hI := Lib.hid (fun u => (⟨fun e => absurd e (by have := HRE.out; omega), fun _ => rfl⟩ : IsRs w.heap.size u (.slice none 0 0) t.L ns))
        go_wp2_with fail
        exact bodyPost_ret (v := .tuple #[.slice none 0 0, .int .i64 23]) (by simp [results, Try.results13, go_sem, *]) rfl ⟨_, by rw [hr], hI.out _, HBW.out.trans (HB8.out.mono HBW.out.size)⟩
    · obtain rfl : nn = k := by omega
      have hlt' : ¬ (nn : Int) < nn := by omega
      have hE := rsE_all (L := t.L) (ns := ns) (fun j hj => hp.out j (by rw [HLN.out] at hj; exact hj))
      have hr0 : RE = 0 := by rw [← HRE.out]; exact hE
      subst hr0
      rw [List.take_of_length_le (by rw [HLN.out]; exact Nat.le_refl _)] at hown
      have HI : Hid (∀ q, wr.ownsRow w.heap.size 46 1 q nn (u32s (rsL t.L ns)) → IsRs w.heap.size wr q t.L ns) := Lib.hid (fun q ho => ⟨fun _ => by rw [HLN.out]; exact ho, fun hn => absurd hE hn⟩)
      have HI' := Lib.hid (HI.out _ hown)
      have HBB := Lib.hid hbl
      clear hown HI hbl
      go_wp2_with fail
      exact bodyPost_ret (v := .tuple #[_, .int .i64 0]) (by simp [results, Try.results13, go_sem, *]) rfl ⟨_, rfl, HI'.out, HBB.out⟩
theorem resolve_nil (w : World) (v : Value) :
    Calls Try.prog 13 #[.pointer none, v] w fun e w' => ∃ q, e = .returned (.tuple #[q, .int .i64 1]) ∧ Below w.heap.size w w' := by
  go_enter Try.func13, Try.ntmps13
  go_wp2_with fail
  exact bodyPost_ret (v := .tuple #[.slice none 0 0, .int .i64 1]) (by simp [results, Try.results13, go_sem]) rfl ⟨_, rfl, Below.refl _ _⟩
end
end Go.Proofs.Ytajidaicojekdaa.KP
