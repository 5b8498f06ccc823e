/-
  The program's Remove. Nothing here is a statement of the seed.
-/
import Derived.Test.YtijcojidfallkaaGraphPC
import Derived.Test.YtijcojidfallkaaMapV
set_option linter.unusedSimpArgs false
set_option linter.unusedVariables false
namespace Go.Proofs.Ytijcojidfallkaa.GP
open Go.RowKit WM NR OM OR GM GR MV
set_option maxHeartbeats 4000000
set_option maxRecDepth 10000
theorem nodF_mk (k : Tx → Nat) (g : List Nd) (s : Tx) (v : Value) (h : nodF k g s = some v) : ∃ c : Nat, v = (fun c => Value.map (some c)) c := by
  unfold nodF at h
  split at h
  · exact ⟨k s, (Option.some.inj h).symm⟩
  · cases h
theorem nodF_some {k : Tx → Nat} {g : List Nd} {s : Tx} {v : Value} (h : nodF k g s = some v) : hasM g s = true ∧ v = .map (some (k s)) := by
  unfold nodF at h
  split at h
  · next h1 => exact ⟨h1, (Option.some.inj h).symm⟩
  · cases h
section
variable {S : Nat → Prop} {w u : World} {a b : Nat} {k : Tx → Nat} {g g' : List Nd}
/-- a node is gone -/
theorem Pt.drops (h : Pt S w a b k g) {m : Tx} (hmb : ME u b (fun s => if s = m then none else nodF k g s)) (hf : Fr (· = b) w u) : Chg S w (.pointer (some ⟨a, 0, none⟩)) (outM g m) u := by
  refine ⟨S, ⟨a, b, k, rfl, ⟨h.hd.as (hf.block a h.hd.lt h.a_ne), hmb.as fun s _ => ?_, fun x hx => ?_, h.sa, h.sb, fun x hx => h.sk x (mem_out.1 hx).1, fun x hx => h.nb x (mem_out.1 hx).1, fun c hc => Nat.lt_of_lt_of_le (h.lt c hc) hf.size, fun x hx => h.zn x (mem_out.1 hx).1⟩⟩, fun c hc => Or.inl hc, hf.mono fun i hi => Or.inl (hi ▸ h.sb)⟩
  · unfold nodF
    by_cases e : s = m
    · rw [if_pos e, if_neg (fun h => (has_out.1 h).2 e)]
    · rw [if_neg e]
      by_cases e2 : hasM g s = true
      · rw [if_pos e2, if_pos (has_out.2 ⟨e2, e⟩)]
      · rw [if_neg e2, if_neg (fun h3 => e2 (has_out.1 h3).1)]
  · have h1 := (mem_out.1 hx).1
    exact (h.st x h1).same (hf.block _ (h.lt _ (h.sk x h1)) (h.nb x h1))
theorem remove_any {v : Value} (h : PT S w v g) (hg : GM.Good g) (hb : g.length ≤ 100) (m : List UInt8) (hm : m.length ≤ 9223372036854775807) :
    Calls Try.prog 15 #[v, .string (bs m)] w fun e u => e = .returned (.int .i64 (removeM g m).2) ∧ Chg S w v (removeM g m).1 u := by
  obtain ⟨a, b, k, rfl, h⟩ := h
  have C1 := Lib.hid (lacks_any h m hm)
  have HH := Lib.hid h
  have HG := Lib.hid hg
  have HBD := Lib.hid hb
  have HM := Lib.hid hm
  obtain ⟨x, hx⟩ : ∃ x, x = bs m := ⟨_, rfl⟩
  rw [← hx] at C1 ⊢
  have HX := Lib.hid hx
  clear h hb hm hg hx
  unfold removeM
  cases h1 : hasM g m with
  | false =>
    rw [h1] at C1
    simp only [if_true]
    clear h1
    go_enter Try.func15, Try.ntmps15
    go_wp2_with (go_at_call 35; (with_reducible refine C1.out.mono ?_); rintro e w1 ⟨rfl, hb1⟩)
    go_ret
    exact ⟨rfl, HH.out.chg_below hb1⟩
  | true =>
    rw [h1] at C1
    simp only [Bool.true_eq_false, if_false]
    have R26 : Hid (∀ u, Below w.heap.size w u → (∃ x ∈ g, m ∈ x.ds) → Ending.returned (.int .i64 26) = Ending.returned (.int .i64 (if dptM g m ≠ [] then (g, (26 : Int)) else (outM g m, 0)).2) ∧ Chg S w (.pointer (some ⟨a, 0, none⟩)) (if dptM g m ≠ [] then (g, (26 : Int)) else (outM g m, 0)).1 u) := Lib.hid (fun u hu ⟨x, hx, hd⟩ => by
      have : dptM g m ≠ [] := fun e => dpt_nil.1 e x hx hd
      rw [if_pos this]
      exact ⟨rfl, HH.out.chg_below hu⟩)
    have R0 : Hid (∀ u, ME u b (fun s => if s = m then none else nodF k g s) → Fr (· = b) w u → (∀ x ∈ g, m ∉ x.ds) → Ending.returned (.int .i64 0) = Ending.returned (.int .i64 (if dptM g m ≠ [] then (g, (26 : Int)) else (outM g m, 0)).2) ∧ Chg S w (.pointer (some ⟨a, 0, none⟩)) (if dptM g m ≠ [] then (g, (26 : Int)) else (outM g m, 0)).1 u) := Lib.hid (fun u hu hf hd => by
      have : ¬ dptM g m ≠ [] := fun e => e (dpt_nil.2 hd)
      rw [if_neg this]
      exact ⟨rfl, HH.out.drops hu hf⟩)
    clear h1
    generalize (if dptM g m ≠ [] then (g, (26 : Int)) else (outM g m, 0)) = res at *
    go_enter Try.func15, Try.ntmps15
    go_upto_region 5 with (go_at_call 35; (with_reducible refine C1.out.mono ?_); rintro e w1 ⟨rfl, hb1⟩)
    have hP := HH.out.below hb1
    have c0 := hP.cell0
    obtain ⟨w2, cnt0, hr, hR, hb2, hs2⟩ := hP.md.range Try.underlying9 (T := 50) Try.underlying50
    have HR0 := Lib.hid hR
    have HB2 := Lib.hid (below_of hb1 hb2)
    have HS1 := Lib.hid hb1.size
    clear hR hb2 hs2 hP
    go_wp2_with fail
    clear hr c0 hb1
    have hrl := HR0.out.ne
    have HRB := Lib.hid hrl
    clear hrl
    generalize w1.heap.size = r0 at *
    go_loopw [6] (fun _ wr => ∃ (left : List UInt8 → Bool) (cnt : Nat), Hid (RangeV Try.prog 9 any wr b r0 (nodF k g) left cnt) ∧ Hid (Below w.heap.size w wr) ∧ Hid (∀ x ∈ g, left x.nm = false → m ∉ x.ds)) (fun _ wr => wr.rangeLeft b r0)
    case atStart => exact ⟨_, cnt0, HR0, HB2, Lib.hid (fun x hx hl => by rw [nodF_isSome, has_iff.2 ⟨x, hx, rfl⟩] at hl; cases hl)⟩
    case round =>
      obtain ⟨left, cnt, HRG, HB, HN⟩ := hrel
      go_wp2_with (at_next; refine wpList_next_V rfl _ rfl Try.underlying9 (fun c : Nat => .map (some c)) (nodF_mk k g) rfl HRG.out ?_ ?_)
      · intro hl0
        have HN0 := Lib.hid (fun x (hx : x ∈ g) => HN.out x hx (hl0 x.nm (HH.out.zn x hx)))
        clear hl0
        have hP := HH.out.below HB.out
        have c0 := hP.cell0
        go_wp2_with (at_delete; refine wpList_delete_V rfl _ _ rfl Try.underlying9 Try.underlying50 rfl hP.md m (by rw [← HX.out]; rfl) HM.out ?_; intro w4 hm4 hg4 hs4)
        have R := Lib.hid (R0.out w4 hm4 ((Fr.of_below HB.out).trans (fr_grown hg4) (fun i hi => Or.inl hi)) HN0.out)
        clear hm4 hg4 hs4 hP c0
        go_wp2_with fail
        go_ret
        exact R.out
      · intro s c w4 cnt4 hs hlk hf hrg hlt4 hg4 hsz4 hen
        obtain ⟨hns, hc⟩ := nodF_some hf
        obtain rfl : c = k s := by simpa using hc
        obtain ⟨x', hx', rfl⟩ := has_iff.1 hns
        have hB4 := HB.out.grown hg4 HB.out.size (fun j hj => by cases hj; have := HS1.out; omega)
        have C := Lib.hid (fun u (hu : Below w4.heap.size w4 u) => sethas_any ((HH.out.st x' hx').same (u' := u) (by
          have hl := HH.out.lt _ (HH.out.sk x' hx')
          rw [hu.block _ (Nat.lt_of_lt_of_le hl hB4.size), hB4.block _ hl])) m HM.out)
        have HRG4 := Lib.hid hrg
        have HB4 := Lib.hid hB4
        have HXX := Lib.hid hx'
        rw [← HX.out] at C
        have HUQ := Lib.hid (fun (y : Nd) (hy : y ∈ g) (e : y.nm = x'.nm) => uniq_nm HG.out.uq hy hx' e)
        have hdd : ∃ d, d = decide (m ∈ x'.ds) := ⟨_, rfl⟩
        obtain ⟨d, hd⟩ := hdd
        rw [← hd] at C
        have HD := Lib.hid hd
        clear hs hlk hf hrg hg4 hsz4 hns hc hx' hB4 hd
        generalize bs x'.nm = y at *
        generalize k x'.nm = c' at *
        cases d with
        | true =>
          go_wp2_with (go_at_call 37; (with_reducible refine (C.out _ (Below.refl _ _)).mono ?_); rintro e w5 ⟨rfl, hb5⟩)
          go_ret
          exact R26.out _ (below_of HB4.out hb5) ⟨x', HXX.out, of_decide_eq_true HD.out.symm⟩
        | false =>
          go_wp2_with (go_at_call 37; (with_reducible refine (C.out _ (Below.refl _ _)).mono ?_); rintro e w5 ⟨rfl, hb5⟩)
          have HRG5 := Lib.hid (HRG4.out.belowS hb5)
          go_roundw
          case rel => exact ⟨_, cnt4, HRG5, Lib.hid (below_of HB4.out hb5), Lib.hid (fun z hz hl => by
            by_cases e : z.nm = x'.nm
            · rw [HUQ.out z hz e]; exact of_decide_eq_false HD.out.symm
            · exact HN.out z hz (by simpa [e] using hl))⟩
          case measure => rw [HRG5.out.left_eq, HRG.out.left_eq]; omega
end
end Go.Proofs.Ytijcojidfallkaa.GP
