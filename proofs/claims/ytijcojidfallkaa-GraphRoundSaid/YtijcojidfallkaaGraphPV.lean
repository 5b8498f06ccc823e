/-
  The program's closure that visits a node, and all that it reaches. Nothing here is a statement of the seed.
-/
import Derived.Test.YtijcojidfallkaaGraphPA
import Derived.Test.YtijcojidfallkaaGraphVM
import Derived.Deep.CutRange
set_option linter.unusedSimpArgs false
set_option linter.unusedVariables false
namespace Go.Proofs.Ytijcojidfallkaa.GP
open Go.RowKit WM NR OM OR GM GR MV
set_option maxHeartbeats 4000000
set_option maxRecDepth 10000
abbrev fv (ps pw pg pv : Nat) : Value := .func (.func 55) #[] #[.pointer (some ⟨ps, 0, none⟩), .pointer (some ⟨pw, 0, none⟩), .pointer (some ⟨pg, 0, none⟩), .pointer (some ⟨pv, 0, none⟩)]
theorem map_ne {w : World} {m p : Nat} {f : List UInt8 → Option Value} {t : TypeId} {cs : Array Value} (h : ME w m f) (h1 : Whole w p t cs) : m ≠ p := by
  unfold Whole at h1
  obtain ⟨D, ⟨es, clock, e1, _⟩, _⟩ := h
  rintro rfl
  rw [e1] at h1
  cases h1
theorem Fr.grows {m : Nat} {w u : World} (h : Fr (· = m) w u) : w.grownBy u (some m) := ⟨h.os, h.tape, h.output, h.size, fun i hi hr => h.block i hi (fun e => hr (by rw [e]))⟩
theorem fr_grown {m : Nat} {w u : World} (h : w.grownBy u (some m)) : Fr (· = m) w u := ⟨h.os, h.tape, h.output, h.size, fun i hi hr => h.block i hi (fun e => hr (Option.some.inj e))⟩
/-- where the closure stands -/
structure Env (S : Nat → Prop) (w : World) (a b : Nat) (k : Tx → Nat) (g : List Nd) (ps pw pg pv m : Nat) : Prop where
  pt : Pt S w a b k g
  cs : Whole w ps 57 #[.map (some m)]
  cg : Whole w pg 25 #[.pointer (some ⟨a, 0, none⟩)]
  cv : Whole w pv 86 #[fv ps pw pg pv]
  no : ¬ S m
section
variable {S : Nat → Prop} {w u : World} {a b : Nat} {k : Tx → Nat} {g : List Nd} {ps pw pg pv m : Nat}
theorem Env.keep {f : List UInt8 → Option Value} (h : Env S w a b k g ps pw pg pv m) (hm : ME w m f) (hf : Fr (· = m) w u) : Env S u a b k g ps pw pg pv m :=
  ⟨h.pt.keep hf.size fun c hc => hf.block c (h.pt.lt c hc) (fun e => h.no (e ▸ hc)), h.cs.as (hf.block ps h.cs.lt (fun e => map_ne hm h.cs e.symm)), h.cg.as (hf.block pg h.cg.lt (fun e => map_ne hm h.cg e.symm)), h.cv.as (hf.block pv h.cv.lt (fun e => map_ne hm h.cv e.symm)), h.no⟩
theorem memF_cons (n : Tx) (L : List Tx) (s : Tx) : memF (n :: L) s = if s = n then some uV else memF L s := by
  unfold memF
  by_cases e : s = n
  · simp [e]
  · simp [e]
theorem memF_mk (l : List Tx) (s : Tx) (v : Value) (h : memF l s = some v) : ∃ c : Unit, v = (fun _ => uV) c := by
  unfold memF at h
  split at h
  · exact ⟨(), (Option.some.inj h).symm⟩
  · cases h
theorem memF_some {l : List Tx} {s : Tx} {v : Value} (h : memF l s = some v) : s ∈ l := by
  unfold memF at h
  split at h
  · assumption
  · cases h
theorem visit_any (N : Nat) : ∀ (w : World) (n : Tx) (deep : Int) (L : List Tx), g.length ≤ 300 → GM.Good g → g.length < L.length + N → Env S w a b k g ps pw pg pv m → ME w m (memF L) → Seen g L → hasM g n = true → 0 ≤ deep → deep ≤ L.length →
    Calls Try.prog 55 #[.string (bs n), .int .i64 deep, .pointer (some ⟨ps, 0, none⟩), .pointer (some ⟨pw, 0, none⟩), .pointer (some ⟨pg, 0, none⟩), .pointer (some ⟨pv, 0, none⟩)] w fun e u => e = .returned (.tuple #[]) ∧ ∃ L', Vis g L n L' ∧ ME u m (memF L') ∧ Fr (· = m) w u := by
  induction N with
  | zero => intro w n deep L _ _ hN _ _ hS; have := hS.len; omega
  | succ N ih =>
    intro w n deep L h300 hg hN hE hm hS hn hd0 hd1
    have hnl := hE.pt.has_len hn
    have C := Lib.hid (sethas_any hm n (by unfold maxLen at hnl; exact hnl))
    have c2 := hE.cs.cell 0
    have hL := hS.len
    have hd2 : deep ≤ 300 := by omega
    by_cases hin : n ∈ L
    · have R := Lib.hid (fun u (hb : Below w.heap.size w u) => show ∃ L', Vis g L n L' ∧ ME u m (memF L') ∧ Fr (· = m) w u from ⟨L, Vis.same hS hin, hm.belowS hb, Fr.of_below hb⟩)
      rw [decide_eq_true hin] at C
      clear hm hS hn hE hN hL hin hnl h300 hg hd1
      generalize bs n = x at *
      go_enter Try.func55, Try.ntmps55
      go_wp2_with (go_at_call 37; (with_reducible refine C.out.mono ?_); rintro e w1 ⟨rfl, hb⟩)
      (try simp only [Exit.inBlock, Exit.then]); refine bodyPost_ret (results_none rfl _ _ _) rfl ?_
      exact ⟨rfl, R.out _ hb⟩
    · rw [decide_eq_false hin] at C
      have hne : ¬ deep = 1000 := by omega
      obtain ⟨hk1, hk2, hk3⟩ := hE.pt.deps hg hn
      have hLg : L.length < g.length := by have := (hS.cons hn hin).len; simp only [List.length_cons] at this; omega
      have PU := Lib.hid (fun u (hb : Below w.heap.size w u) => (hm.belowS hb).put (T := 57) Try.underlying9 Try.underlying57 (l := L) (fun s _ h => by obtain ⟨v, hv⟩ := Option.isSome_iff_exists.1 h; exact memF_some hv) (by unfold maxLen; omega) (s := n) hnl (v := uV) rfl)
      have HE := Lib.hid hE
      have HM := Lib.hid hm
      have HS := Lib.hid hS
      have HN := Lib.hid hN
      have HNN := Lib.hid hn
      have HIN := Lib.hid hin
      have HG := Lib.hid hg
      have H3 := Lib.hid h300
      have HK := Lib.hid hk1
      have HK2 := Lib.hid hk2
      have HK3 := Lib.hid hk3
      have HNL := Lib.hid hnl
      have HD := Lib.hid hd1
      have HLG := Lib.hid hLg
      have IH := Lib.hid ih
      clear hm hS hn hE hN hL hin hnl hg hk1 hk2 hk3 h300 ih hd1 hLg
      obtain ⟨x, hx⟩ : ∃ x, x = bs n := ⟨_, rfl⟩
      rw [← hx] at C ⊢
      have HX := Lib.hid hx
      clear hx
      go_enter Try.func55, Try.ntmps55
      go_upto_region 3 with (go_at_call 37; (with_reducible refine C.out.mono ?_); rintro e w1 ⟨rfl, hb⟩; have HB1 := Lib.hid hb; clear hb)
      have hde : (deep == 1000) = false := by simpa using hne
      rw [hde]
      clear hde hne
      have hE1 := HE.out.keep HM.out (Fr.of_below HB1.out)
      have hM1 := HM.out.belowS HB1.out
      obtain ⟨w2, hr2, hm2, hg2⟩ := PU.out w1 HB1.out
      rw [← HX.out] at hr2
      clear c2
      have c2 := hE1.cs.cell 0
      have hE2 := hE1.keep hM1 (fr_grown hg2)
      have hF2 : Fr (· = m) w w2 := (Fr.of_below HB1.out).trans (fr_grown hg2) (fun i hi => Or.inl hi)
      have hm2 : ME w2 m (memF (n :: L)) := hm2.as fun s _ => (memF_cons n L s).symm
      have c4 := hE2.cg.cell 0
      have c5 := hE2.pt.cell0
      have hl := hE2.pt.look HNL.out
      rw [HK.out, ← HX.out] at hl
      simp only [Option.getD_some] at hl
      have hk2 := HK2.out.same (hF2.block (k n) (HE.out.pt.lt _ HK3.out) (fun e => HE.out.no (e ▸ HK3.out)))
      obtain ⟨w3, cnt0, hr3, hR3, hb3, hs3⟩ := hk2.range Try.underlying9 (T := 57) Try.underlying57
      have hk3l := hk2.lt
      have HR0 := Lib.hid hR3
      have HF3 := Lib.hid (hF2.then hb3)
      have HM3 := Lib.hid (hm2.belowS hb3)
      have HML := Lib.hid hm2.lt
      have HW2 := Lib.hid hF2.size
      have HMD := Lib.hid (Mid.start HS.out HNN.out HIN.out (left := fun s => (memF (depsM g n) s).isSome) (fun d hd => by rw [memF_isSome]; exact decide_eq_true hd))
      clear hE1 hM1 hm2 hg2 hE2 hF2 hk2 hR3 hb3 hs3
      go_wp2_with fail
      clear hr2 c2 c4 c5 hl hr3
      have HKL := Lib.hid hk3l
      clear hk3l
      have hrm : w2.heap.size ≠ m := by have := HML.out; omega
      have HRM := Lib.hid hrm
      clear hrm
      generalize w2.heap.size = r0 at *
      go_loopw [8] (fun _ wr => ∃ (left : List UInt8 → Bool) (cnt : Nat) (L1 : List Tx), Hid (RangeV Try.prog 9 any wr (k n) r0 (memF (depsM g n)) left cnt) ∧ Hid (Fr (· = m) w wr) ∧ Hid (ME wr m (memF L1)) ∧ Hid (Mid g L n left L1)) (fun _ wr => wr.rangeLeft (k n) r0)
      case atStart => exact ⟨_, cnt0, _, HR0, HF3, HM3, HMD⟩
      case round =>
        obtain ⟨left, cnt, L1, HRG, HF, HM1, HMI⟩ := hrel
        go_wp2_with (at_next; refine wpList_next_V rfl _ rfl Try.underlying9 (fun _ : Unit => uV) (memF_mk (depsM g n)) rfl HRG.out ?_ ?_)
        · intro hl0
          have R := Lib.hid (show ∃ L', Vis g L n L' ∧ ME wr m (memF L') ∧ Fr (· = m) w wr from ⟨L1, HMI.out.done (fun d hd => hl0 d (by have := HE.out.pt.has_len (HG.out.dep_node hd); exact this)), HM1.out, HF.out⟩)
          clear hl0
          go_wp2_with fail
          go_end0
          exact ⟨rfl, R.out⟩
        · intro s w4 cnt4 hs hlk hf hrg hlt4 hg4 hsz4 hen
          have hds := memF_some hf
          have hrl := hrg.lt
          have hF4 : Fr (· = m) w w4 := Fr.trans (S' := fun i => i = r0) HF.out ⟨hg4.os, hg4.tape, hg4.output, hg4.size, fun i hi hn => hg4.block i hi (fun e => hn (Option.some.inj e))⟩ (fun i hi => Or.inr (by have := HW2.out; omega))
          have hm4 : ME w4 m (memF L1) := HM1.out.kept hg4 (fun e => HRM.out (Option.some.inj e).symm)
          have hE4 := HE.out.keep HM.out hF4
          have hlen : L.length + 1 ≤ L1.length := sub_len (HS.out.cons HNN.out HIN.out).nd (fun y hy => by
            rcases List.mem_cons.1 hy with rfl | hy
            · exact HMI.out.has
            · exact HMI.out.sub y hy)
          have hd1 := HD.out
          have CI := Lib.hid (IH.out w4 s (deep + 1) L1 H3.out HG.out (by have := HN.out; omega) hE4 hm4 HMI.out.seen (HG.out.dep_node hds) (by omega) (by omega))
          have c5 := hE4.cv.cell 0
          have HRG4 := Lib.hid hrg
          have HF4 := Lib.hid hF4
          have HDS := Lib.hid hds
          clear hs hlk hf hds hrg hg4 hsz4 hF4 hm4 hE4 hlen hd1
          generalize bs s = y at *
          go_wp2_with (go_at_call 55; (with_reducible refine CI.out.mono ?_); rintro e w5 ⟨rfl, L2, hv, hm5, hf5⟩; have HV := Lib.hid hv; have HM5 := Lib.hid hm5; have HF5 := Lib.hid hf5; clear hv hm5 hf5)
          have HRG5 := Lib.hid (HRG4.out.kept (Fr.grows HF5.out) (fun e => HE.out.no (by rw [← Option.some.inj e]; exact HK3.out)) (fun e => HRM.out (Option.some.inj e)))
          go_roundw
          case rel => exact ⟨_, cnt4, L2, HRG5, Lib.hid (HF4.out.trans HF5.out fun i hi => Or.inl hi), HM5, Lib.hid (HMI.out.next HDS.out HV.out)⟩
          case measure => rw [HRG5.out.left_eq, HRG.out.left_eq]; omega
end
end Go.Proofs.Ytijcojidfallkaa.GP
