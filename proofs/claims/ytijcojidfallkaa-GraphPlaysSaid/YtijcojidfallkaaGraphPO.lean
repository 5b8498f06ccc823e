/-
  The program's Order. Nothing here is a statement of the seed.
-/
import Derived.Test.YtijcojidfallkaaGraphOS
import Derived.Deep.CutRange
set_option linter.unusedSimpArgs false
set_option linter.unusedVariables false
namespace Go.Proofs.Ytijcojidfallkaa.GO
open Go.RowKit WM NR OM OR GM GR MV GF GP GH
set_option maxHeartbeats 8000000
set_option maxRecDepth 10000
theorem zeroI (w : World) : (zeroValue 3).run Try.prog w = .ok (.int .i64 0) w := by kernel_rfl
theorem zeroL (w : World) : (zeroValue 32).run Try.prog w = .ok (.slice none 0 0) w := by kernel_rfl
def lenV : Value → Nat
  | .slice _ n _ => n
  | _ => 0
theorem fr_row {w u : World} {row : Option Nat} (h : w.grownBy u row) : Fr (fun c => row = some c) w u := ⟨h.os, h.tape, h.output, h.size, fun i hi hr => h.block i hi (fun e => hr e.symm)⟩
theorem dep_in {g : List Nd} {d y : Tx} (h : d ∈ depsM g y) : hasM g y = true := by
  obtain ⟨x, hx, e, _⟩ := deps_has h
  exact has_iff.2 ⟨x, hx, e⟩
section
variable {S : Nat → Prop} {w : World} {a b : Nat} {k : Tx → Nat} {g : List Nd}
theorem order_pt (h : Pt S w a b k g) (hg : GM.Good g) (hb : g.length ≤ 100) :
    Calls Try.prog 21 #[.pointer (some ⟨a, 0, none⟩)] w (IsL w (orderM g)) := by
  obtain ⟨i0, hi, hz0, hz1, hz2⟩ := info_parts infoStr
  have HH := Lib.hid h
  have HG := Lib.hid hg
  have HBD := Lib.hid hb
  have hmm := @run_makeMap Try.prog
  clear h hg hb
  go_enter Try.func21, Try.ntmps21
  go_upto_region 4 with fail
  have x1 : ME (w.alloc (.map #[] 0)) w.heap.size (misL (fun s => (nodF k g s).isSome) g) := (MapV.made (P := Try.prog) (K := 9) (ok := any) w).as fun s _ => by
    unfold misL
    simp only [nodF_isSome]
    rw [if_neg (fun h => by rw [h.1] at h; cases h.2)]
  have x2 : ME ((w.alloc (.map #[] 0)).alloc (.map #[] 0)) (w.heap.size + 1) (fun _ => none) := by
    have := MapV.made (P := Try.prog) (K := 9) (ok := any) (w.alloc (.map #[] 0))
    simpa using this
  have x3 := Whole.new ((w.alloc (.map #[] 0)).alloc (.map #[] 0)) 71 #[.slice none 0 0]
  have b1 : Below w.heap.size w (w.alloc (.map #[] 0)) := (Below.refl _ _).alloc (Nat.le_refl _) _
  have b2 := (Below.refl (w.alloc (.map #[] 0)).heap.size (w.alloc (.map #[] 0))).alloc (Nat.le_refl _) (.map #[] 0)
  have b3 := (Below.refl ((w.alloc (.map #[] 0)).alloc (.map #[] 0)).heap.size ((w.alloc (.map #[] 0)).alloc (.map #[] 0))).alloc (Nat.le_refl _) (.cells #[.slice none 0 0] 71)
  have y1 := (x1.belowS b2).belowS b3
  have y2 := x2.belowS b3
  have b0 := below_of (below_of b1 b2) b3
  have hs0 : (((w.alloc (.map #[] 0)).alloc (.map #[] 0)).alloc (.cells #[.slice none 0 0] 71)).heap.size = w.heap.size + 3 := by simp
  have e3 : ((w.alloc (.map #[] 0)).alloc (.map #[] 0)).heap.size = w.heap.size + 1 + 1 := by simp
  rw [e3] at x3
  clear x1 x2 b1 b2 b3 e3
  generalize ((w.alloc (.map #[] 0)).alloc (.map #[] 0)).alloc (.cells #[.slice none 0 0] 71) = W0 at *
  have hP := HH.out.below b0
  have C1 := Lib.hid (all_any hP)
  obtain ⟨w2, cnt0, hr, hR, hb2, hs2⟩ := hP.md.range Try.underlying9 (T := 50) Try.underlying50
  obtain ⟨pr, hpr⟩ : ∃ x, x = w.heap.size + 1 + 1 := ⟨_, rfl⟩
  rw [← hpr] at x3 ⊢
  obtain ⟨m2, hm2⟩ : ∃ x, x = w.heap.size + 1 := ⟨_, rfl⟩
  rw [← hm2] at y2 ⊢
  obtain ⟨r1, hr1⟩ : ∃ x, x = W0.heap.size := ⟨_, rfl⟩
  rw [← hr1] at hR hr
  obtain ⟨m1, hm1⟩ : ∃ x, x = w.heap.size := ⟨_, rfl⟩
  rw [← hm1] at y1
  have HLay := Lib.hid (show Lay w.heap.size b (w.heap.size + 4) m1 m2 pr r1 from ⟨HH.out.lt b HH.out.sb, hm1, hm2, by omega, by omega, rfl⟩)
  generalize w.heap.size + 4 = B at HLay
  have HPO := Lib.hid (show Po w w2 b B m1 m2 pr r1 k g (fun s => (nodF k g s).isSome) cnt0 (.slice none 0 0) [] (fun _ => none) (fun _ => .slice none 0 0) (fun _ => []) from by
    obtain ⟨q1, q2, q3, q4, q5, q6⟩ := HLay.out
    refine ⟨⟨hR, below_of b0 hb2, y1.belowS hb2, ⟨⟨by omega, x3.belowS hb2, World.ownsRow_nil _ _ _ _⟩, fun i h0 hi => by simp at hi⟩, by omega⟩, ⟨y2.belowS hb2, fun _ => rfl, fun d h => by (cases h), fun d => World.ownsRow_nil _ _ _ _, fun d e hne c hc => by (cases hc), fun d c hc => by (cases hc), fun c hc => by (cases hc), fun hc => by (cases hc), by omega⟩, fun d => List.nodup_nil, fun d y => ⟨fun h => by (cases h), fun ⟨h1, h2⟩ => by rw [nodF_isSome, dep_in h2] at h1; cases h1⟩, List.nodup_nil, fun s => ⟨fun h => by (cases h), fun ⟨h1, h2, _⟩ => by rw [nodF_isSome, h1] at h2; cases h2⟩⟩)
  have hm1' : w.heap.size = m1 := hm1.symm
  clear hm1 hm2 hpr hr1 hR hb2 hs2 hs0 hP b0 x3 y1 y2 hmm
  go_wp2_with (go_at_call 41; (with_reducible refine C1.out.mono ?_); rintro e w1 ⟨rfl, hw1⟩; subst w1)
  clear hr C1
  clear hm1'
  go_loopw [6] (fun _ wr => ∃ (lf : List UInt8 → Bool) (ct : Nat) (fd : Tx → Option Value) (vd : Tx → Value) (Dc : Tx → List Tx) (v : Value) (ss : List Tx), Hid (Po w wr b B m1 m2 pr r1 k g lf ct v ss fd vd Dc)) (fun _ wr => wr.rangeLeft b r1)
  case atStart => exact ⟨_, cnt0, _, _, _, _, _, HPO⟩
  case round =>
    clear HPO
    obtain ⟨lf, ct, fd, vd, Dc, v, ss, HP⟩ := hrel
    go_wp2_with (at_next; refine wpList_next_V rfl _ rfl Try.underlying9 (fun c : Nat => .map (some c)) (nodF_mk k g) rfl HP.out.pa.rg ?_ ?_)
    · intro hl0
      have HL0 := Lib.hid (fun x (hx : hasM g x = true) => hl0 x (HH.out.has_len hx))
      clear hl0
      go_wp2_with fail
      have HPC := Lib.hid (show Pc w wr B m1 m2 pr g [] v ss (.slice none 0 0) fd vd Dc from
        ⟨HP.out.pa.bl, HP.out.pa.ms.as (fun x _ => by
          unfold misL misC
          by_cases e : hasM g x = true
          · rw [if_pos ⟨e, HL0.out x e⟩, if_pos e, ← cnt_nil]
          · rw [if_neg (fun h => e h.1), if_neg e]), HP.out.dm.keep (Fr.refl (fun _ => False) wr) (fun c hc => hc.elim) (fun c hc => hc.elim Or.inl (fun h => by (cases h))) (fun c hc => hc.elim (HP.out.dm.xl c) (fun h => by (cases h))), HP.out.pa.hp, fun n => ⟨HP.out.dn n, fun y => by rw [HP.out.dc]; exact ⟨fun h => h.2, fun h => ⟨HL0.out y (dep_in h), h⟩⟩⟩,
          ⟨HP.out.sn, fun y => by
            rw [HP.out.sm]
            exact ⟨fun ⟨h1, _, h3⟩ => ⟨h1, fun d hd => (by rw [h3] at hd; cases hd), fun h => (by cases h)⟩, fun ⟨h1, h2, _⟩ => ⟨h1, HL0.out y h1, by
              cases hh : depsM g y with
              | nil => rfl
              | cons d l => exact absurd (h2 d (by rw [hh]; exact List.mem_cons_self ..)) (fun h => by (cases h))⟩⟩, OrdI.nil g, rfl, Nat.zero_le _⟩, World.ownsRow_nil _ _ _ _, fun c hc h => (by cases h), HP.out.pa.sz⟩)
      clear HP HL0
      go_loopw [9] (fun v9 wr => ∃ (C : List Tx) (v : Value) (ss : List Tx), Hid (Pc w wr B m1 m2 pr g C v ss v9 fd vd Dc)) (fun v9 _ => g.length - lenV v9)
      case atStart => exact ⟨[], v, ss, HPC⟩
      case round =>
        clear HPC v ss lf ct
        obtain ⟨C, v, ss, HC⟩ := hrel
        obtain ⟨va, vc, hv⟩ := HC.out.hp.1.form
        subst hv
        have c0 := HC.out.hp.1.bx.cell 0
        have hssl : ss.length ≤ 100 := Nat.le_trans (nodup_len (g := g) HC.out.ki.nd fun y hy => ((HC.out.ki.mem y).1 hy).nod) HBD.out
        by_cases h0 : ss = []
        · subst h0
          have HE := Lib.hid (HC.out.ki.done HG.out)
          have HB := Lib.hid (show w.heap.size ≤ B by have := HLay.out.hB; omega)
          clear hssl
          go_wp2_with fail
          go_ret
          rw [← HE.out]
          exact isL_own HC.out.ow rfl HC.out.bl HB.out
        · obtain ⟨m, hm⟩ : ∃ m, ss.length = m + 1 := ⟨ss.length - 1, by have := List.length_pos_iff.2 h0; omega⟩
          obtain ⟨q1, q2, q3, q4, q5, q6⟩ := HLay.out
          have CL := Lib.hid (lowest_any HC.out.hp (by omega) hm)
          have hns := getD_in (l := ss) (k := 0) (by omega)
          have hlow : ∀ s ∈ ss, Op.bytesLess s (ss.getD 0 []) = false := fun s hs => by
            obtain ⟨i, hi, e⟩ := List.mem_iff_getElem.1 hs
            have := HC.out.hp.2.least i hi
            rw [List.getD_eq_getElem?_getD, List.getElem?_eq_getElem hi, Option.getD_some, e] at this
            exact this
          obtain ⟨n, hn⟩ : ∃ n, n = ss.getD 0 [] := ⟨_, rfl⟩
          rw [← hn] at CL hns hlow
          have hpk := HC.out.ki.pick HG.out hns hlow
          have hrd := (HC.out.ki.mem n).1 hns
          have hnl := HH.out.has_len hrd.nod
          have HPK := Lib.hid hpk
          have HRD := Lib.hid hrd
          have HNS := Lib.hid hns
          have HLO := Lib.hid hlow
          have HVB := Lib.hid (show ∀ c, (Value.slice va ss.length vc).ownBlock = some c → B ≤ c from fun c hc => (HC.out.hp.1.ow.lt c hc).1)
          have HQB := Lib.hid (show ∀ c, u9.ownBlock = some c → B ≤ c from fun c hc => (HC.out.ow.lt c hc).1)
          have HLN := Lib.hid (show lenV u9 = C.length from by obtain ⟨x, y, e⟩ := own_form' HC.out.ow; rw [e]; rfl)
          obtain ⟨ra, rc, hvn⟩ := own_form' (HC.out.dm.ow n)
          have HVN := Lib.hid hvn
          have hcl := hpk.1
          have hbd := HBD.out
          have hn16 : (C.length + 1) * 16 ≤ 140737488355328 := by omega
          have hnm : C.length + 1 ≤ maxLen := by unfold maxLen; omega
          have hlz : (ss.length : Int) ≤ 100 := by omega
          have hl1 : ¬ ss.length = 0 := by omega
          have hl2 : (0 : Int) < ss.length := by omega
          obtain ⟨X, hX⟩ : ∃ X, X = bs n := ⟨_, rfl⟩
          have HX := Lib.hid hX
          rw [← hX] at CL
          clear hX hn hm hns hlow hpk hrd hvn hcl hbd h0 hssl q1 q2 q3 q4 q5 q6
          go_wp2_with (first
            | (go_at_call 44; (with_reducible refine CL.out.mono ?_); rintro e w4 ⟨rfl, v4, s4, hh4, hp4, hf4, hv4⟩; have HH4 := Lib.hid hh4; have HP4 := Lib.hid hp4; have HF4 := Lib.hid hf4; have HV4 := Lib.hid hv4
               have ho4 := own_same HC.out.ow (u := w4) (fun c hc => hf4.block c (HC.out.ow.lt c hc).2 (fun hz => hz.elim (fun e => by have := HQB.out c hc; have := HLay.out.hp; have := HLay.out.hB; omega) (fun e => HC.out.vq c e hc)))
               have hBz : B ≤ w4.heap.size := Nat.le_trans HC.out.sz hf4.size
               clear hh4 hp4 hf4 hv4)
            | (at_builtin; refine wpList_append_own_at _ rfl _ _ 32 rfl B 9 i0 (.string ⟨#[]⟩) 1 16 Try.underlying32 hi hz0 hz1 hz2 rfl (by decide) u9 _ _ rfl (ho4.alloc _) ⟨w4.heap.size, 0, none⟩ 1 1 [.string X] rfl rfl ?d1 ?d2 hnm hn16 ?d5 ?_))
          case d1 =>
            intro j u hu
            cases j with
            | zero => simp at hu; subst hu; exact (Whole.new _ _ _).cell 0
            | succ j => simp at hu
          case d2 => intro u hu; simp at hu; subst hu; rfl
          case d5 => simp; omega
          intro v5 w5 ho5 hg5 _ hat5
          have hal := (Below.refl w4.heap.size w4).alloc (Nat.le_refl _) (.cells #[.string X] 9)
          have hF45 : Fr (fun c => u9.ownBlock = some c) w4 w5 := Fr_grown' ((Fr.refl (fun c => u9.ownBlock = some c) w4).then hal) hg5 (fun i hi => Or.inl hi)
          have hvq4 : ∀ c, v4.ownBlock = some c → u9.ownBlock ≠ some c := fun c hc => HC.out.vq c (by rw [← HV4.out]; exact hc)
          have hF5 : Fr (fun c => (c = pr ∨ (Value.slice va ss.length vc).ownBlock = some c) ∨ u9.ownBlock = some c) wr w5 := (HF4.out.mono (S' := fun c => (c = pr ∨ (Value.slice va ss.length vc).ownBlock = some c) ∨ u9.ownBlock = some c) (fun i hi => Or.inl (Or.inl hi))).trans hF45 (fun i hi => Or.inl (Or.inr hi))
          have HPD := Lib.hid (show Pd w w5 B m1 m2 pr g C n 0 v4 s4 v5 fd vd Dc from by
            obtain ⟨q1, q2, q3, q4, q5, q6⟩ := HLay.out
            have hlt4 : ∀ c, v4.ownBlock = some c → B ≤ c ∧ c < w4.heap.size := fun c hc => HH4.out.1.ow.lt c hc
            have hat : ∀ c, v5.ownBlock = some c → u9.ownBlock = some c ∨ w4.heap.size ≤ c := fun c hc => by
              rcases hat5 with e | e
              · exact Or.inl (e ▸ hc)
              · rw [e] at hc; have := Option.some.inj hc; exact Or.inr (by first | omega | (simp at this; omega))
            refine ⟨HC.out.bl.trans (hF5.below HC.out.bl.size (fun c hc => ?_)), (me_fr HC.out.ms hF5 ?_).as (fun s _ => misC_congr (by simp)), HC.out.dm.keep hF5 (fun c hc => ?_) (fun c hc => ?_) (fun c hc => ?_), hp_fr HH4.out hF45 (fun e => by have := HQB.out _ e; omega) (fun c hc => hvq4 c hc), KJ.start HC.out.ki HP4.out (Dc n), ?_, fun c hc e => ?_, Nat.le_trans HC.out.sz hF5.size⟩
            · rcases hc with (e | e) | e
              · omega
              · have := HVB.out c e; omega
              · have := HQB.out c e; omega
            · rintro ((e | e) | e)
              · omega
              · have := HVB.out _ e; omega
              · have := HQB.out _ e; omega
            · rcases hc with (e | e) | e
              · exact Or.inr (by omega)
              · exact Or.inl (Or.inl e)
              · exact Or.inl (Or.inr e)
            · rcases hc with e | e
              · exact Or.inl (Or.inl (by rw [← HV4.out]; exact e))
              · exact (hat c e).imp Or.inr (fun h => Nat.le_trans HF4.out.size h)
            · rcases hc with e | e
              · exact Nat.lt_of_lt_of_le (hlt4 c e).2 hF45.size
              · exact (ho5.lt c e).2
            · have : strs (C ++ [n]) = strs C ++ [.string X] := by rw [HX.out]; simp [strs]
              rw [this, List.length_append]
              exact ho5
            · rcases hat c e with h1 | h1
              · exact hvq4 c hc h1
              · have := (hlt4 c hc).2; omega)
          have hlook := HPD.out.dm.me.look (T := 70) Try.underlying9 Try.underlying70 zeroL rfl hnl
          rw [HPD.out.dm.lk n, HVN.out, ← HX.out] at hlook
          have HL5 := Lib.hid (show lenV v5 = C.length + 1 from by
            obtain ⟨x, y, e⟩ := own_form' HPD.out.ow
            rw [e, List.length_append, List.length_singleton]
            rfl)
          have HDP := Lib.hid (HC.out.dp n)
          have HDPA := Lib.hid HC.out.dp
          have HKI := Lib.hid HC.out.ki
          have HDL := Lib.hid (show (Dc n).length ≤ 100 from Nat.le_trans (nodup_len (g := g) (HC.out.dp n).nd fun y hy => dep_in (((HC.out.dp n).mem y).1 hy)) HBD.out)
          have hdl := HDL.out
          clear ho5 hg5 hat5 hal hF45 hvq4 hF5 HH4 HP4 HF4 HV4 HQB HVB ho4 hBz CL c0 HC
          go_wp2_with fail
          go_loopw [58] (fun v58 wr => ∃ (i : Nat) (v : Value) (ss : List Tx), v58 = .int .i64 (i : Int) ∧ i ≤ (Dc n).length ∧ Hid (Pd w wr B m1 m2 pr g C n i v ss v5 fd vd Dc)) (fun v58 _ => (Dc n).length - (intOf v58).toNat)
          case atStart => exact ⟨0, v4, s4, by go_num, Nat.zero_le _, HPD⟩
          case round =>
            clear HPD v4 s4 hlook
            obtain ⟨i, v, ss', rfl, hi, HD⟩ := hrel
            by_cases hlt : i < (Dc n).length
            · have hil := hlt
              have hiz : (i : Int) < (Dc n).length := by omega
              have hyD := getD_in (l := Dc n) hil
              have hyd := (HDP.out.mem _).1 hyD
              have hyn := dep_in hyd
              have hyl := HH.out.has_len hyn
              have hyt := not_take HDP.out.nd hil
              obtain ⟨gb, off, hra, qa, cy⟩ := reads_at (((Reads.of_owns (show wr.ownsRow B 9 1 (.slice ra (Dc n).length rc) (strs (Dc n)).length (strs (Dc n)) by rw [strs_len, ← HVN.out]; exact HD.out.dm.ow n)).there).mono (fun g hg => hg.2) : Reads (· < wr.heap.size) wr _ _) (Below.refl _ _) hlt
              subst hra
              rw [strs_at hil] at cy
              have hlook := HD.out.ms.look (T := 69) Try.underlying9 Try.underlying69 zeroI rfl hyl
              have hval : (misC (fun s => (cnt g C s : Int) - (if s ∈ (Dc n).take i then 1 else 0)) g ((Dc n).getD i [])).getD (.int .i64 0) = .int .i64 (cnt g C ((Dc n).getD i []) : Int) := by
                unfold misC
                rw [if_pos hyn, Option.getD_some]
                show Value.int .i64 ((cnt g C ((Dc n).getD i []) : Int) - (if (Dc n).getD i [] ∈ (Dc n).take i then 1 else 0)) = _
                rw [if_neg hyt, Int.sub_zero]
              rw [hval] at hlook
              have hc1 : 1 ≤ cnt g C ((Dc n).getD i []) := by
                rcases Nat.eq_zero_or_pos (cnt g C ((Dc n).getD i [])) with h1 | h1
                · exact absurd (cnt_zero.1 h1 n hyd) HRD.out.no
                · exact h1
              have hc2 : cnt g C ((Dc n).getD i []) ≤ 100 := Nat.le_trans (List.length_filter_le _ _) (Nat.le_trans (nodup_len (g := g) (HG.out.deps_rise _).nodup fun d hd => HG.out.dep_node hd) HBD.out)
              have hrz : ((Dc n).length : Int) ≤ rc := by omega
              by_cases h1 : cnt g C ((Dc n).getD i []) = 1
              · have HCY := Lib.hid h1
                obtain ⟨w7, hr7, hm7, hg7⟩ := HD.out.ms.put Try.underlying9 (T := 69) Try.underlying69 (l := g.map (·.nm)) (fun s _ h => misC_in h) (by rw [List.length_map]; have := HBD.out; unfold maxLen; omega) (s := (Dc n).getD i []) hyl (v := .int .i64 ((cnt g C ((Dc n).getD i []) : Int) - 1)) rfl
                have hl7 := hm7.look (T := 69) Try.underlying9 Try.underlying69 zeroI rfl hyl
                simp only [if_true, Option.getD_some] at hl7
                have HM7 := Lib.hid (hm7.as (fun x _ => misC_put (h := fun s => (cnt g C s : Int) - (if s ∈ (Dc n).take i then 1 else 0)) hyn _ x))
                have HF7 := Lib.hid (fr_grown hg7)
                rw [h1] at hr7 hl7 hlook
                rw [show ((1 : Nat) : Int) - 1 = 0 from rfl] at hr7 hl7
                rw [show ((1 : Nat) : Int) = 1 from rfl] at hlook
                have hssl : ss'.length < 80000 := by
                  have : ss'.length ≤ g.length := nodup_len HD.out.kj.nd fun y hy => by
                    rcases (HD.out.kj.mem y).1 hy with h2 | h2
                    · exact h2.1.nod
                    · exact dep_in ((HDP.out.mem y).1 (List.mem_of_mem_take h2.1))
                  have := HBD.out
                  omega
                have CA := Lib.hid (GH.add_any (hp_fr HD.out.hp HF7.out (by have := HLay.out.h1; have := HLay.out.hp; omega) (fun c hc e => by have := (HD.out.hp.1.ow.lt c hc).1; have := HLay.out.h1; have := HLay.out.hB; omega)) hssl (Nat.le_trans HD.out.sz HF7.out.size) ((Dc n).getD i []))
                clear hyD hyd hyt hval hc1 hc2 h1 hm7 hg7 hssl hyn
                generalize bs ((Dc n).getD i []) = Y at *
                go_wp2_with (go_at_call 43; (with_reducible refine CA.out.mono ?_); rintro e w8 ⟨rfl, v8, s8, hh8, hp8, hf8, hv8⟩; have HH8 := Lib.hid hh8; have HP8 := Lib.hid hp8; have HF8 := Lib.hid hf8; have HV8 := Lib.hid hv8; clear hh8 hp8 hf8 hv8)
                have HPD := Lib.hid (show Pd w w8 B m1 m2 pr g C n (i + 1) v8 s8 v5 fd vd Dc from by
                  obtain ⟨q1, q2, q3, q4, q5, q6⟩ := HLay.out
                  have hvB : ∀ c, v.ownBlock = some c → B ≤ c := fun c hc => (HD.out.hp.1.ow.lt c hc).1
                  have h5 : ∀ c, v5.ownBlock = some c → B ≤ c ∧ c < wr.heap.size := fun c hc => HD.out.ow.lt c hc
                  refine ⟨(HD.out.bl.trans (HF7.out.below HD.out.bl.size (fun c hc => by omega))).trans (HF8.out.below (Nat.le_trans HD.out.bl.size HF7.out.size) (fun c hc => hc.elim (fun e => by omega) (fun e => by have := hvB c e; omega))), (me_fr HM7.out HF8.out (fun hc => hc.elim (fun e => by omega) (fun e => by have := hvB _ e; omega))).as (fun s _ => ms_next HDP.out.nd hil s), (HD.out.dm.keep HF7.out (X' := fun c => v.ownBlock = some c ∨ v5.ownBlock = some c) (fun c hc => Or.inr (by omega)) (fun c hc => Or.inl hc) (fun c hc => Nat.lt_of_lt_of_le (HD.out.dm.xl c hc) HF7.out.size)).keep HF8.out (fun c hc => hc.elim (fun e => Or.inr (by omega)) (fun e => Or.inl (Or.inl e))) (fun c hc => hc.elim (fun e => (HV8.out c e).imp Or.inl id) (fun e => Or.inl (Or.inr e))) (fun c hc => hc.elim (fun e => (HH8.out.1.ow.lt c e).2) (fun e => Nat.lt_of_lt_of_le (h5 c e).2 (Nat.le_trans HF7.out.size HF8.out.size))), HH8.out, HD.out.kj.yes HDP.out HRD.out.no hil HCY.out HP8.out, own_same (own_same HD.out.ow (fun c hc => HF7.out.block c (h5 c hc).2 (fun e => by have := (h5 c hc).1; omega))) (fun c hc => HF8.out.block c (Nat.lt_of_lt_of_le (h5 c hc).2 HF7.out.size) (fun hz => hz.elim (fun e => by have := (h5 c hc).1; omega) (fun e => HD.out.vq c e hc))), fun c hc e => ?_, Nat.le_trans HD.out.sz (Nat.le_trans HF7.out.size HF8.out.size)⟩
                  rcases HV8.out c hc with h1 | h1
                  · exact HD.out.vq c h1 e
                  · have := (h5 c e).2; have := HF7.out.size; omega)
                go_roundw
                case rel => exact ⟨i + 1, v8, s8, by go_num, by omega, HPD⟩
                case measure => simp [intOf]; omega
              · have HCY := Lib.hid h1
                obtain ⟨w7, hr7, hm7, hg7⟩ := HD.out.ms.put Try.underlying9 (T := 69) Try.underlying69 (l := g.map (·.nm)) (fun s _ h => misC_in h) (by rw [List.length_map]; have := HBD.out; unfold maxLen; omega) (s := (Dc n).getD i []) hyl (v := .int .i64 ((cnt g C ((Dc n).getD i []) : Int) - 1)) rfl
                have hl7 := hm7.look (T := 69) Try.underlying9 Try.underlying69 zeroI rfl hyl
                simp only [if_true, Option.getD_some] at hl7
                have HM7 := Lib.hid (hm7.as (fun x _ => misC_put (h := fun s => (cnt g C s : Int) - (if s ∈ (Dc n).take i then 1 else 0)) hyn _ x))
                have HF7 := Lib.hid (fr_grown hg7)
                clear hyD hyd hyt hval hm7 hg7 hyn
                obtain ⟨cc, hcc⟩ : ∃ cc, cc = cnt g C ((Dc n).getD i []) := ⟨_, rfl⟩
                rw [← hcc] at hr7 hl7 hlook hc1 hc2 h1
                have hz1 : ¬ (cc : Int) - 1 = 0 := by omega
                have hz2 : (1 : Int) ≤ cc := by omega
                have hz3 : (cc : Int) ≤ 100 := by omega
                clear hcc hc1 hc2 h1
                generalize bs ((Dc n).getD i []) = Y at *
                go_wp2_with fail
                have HPD := Lib.hid (show Pd w w7 B m1 m2 pr g C n (i + 1) v ss' v5 fd vd Dc from by
                  obtain ⟨q1, q2, q3, q4, q5, q6⟩ := HLay.out
                  have hvB : ∀ c, v.ownBlock = some c → B ≤ c := fun c hc => (HD.out.hp.1.ow.lt c hc).1
                  exact ⟨HD.out.bl.trans (HF7.out.below HD.out.bl.size (fun c hc => by omega)), HM7.out.as (fun s _ => ms_next HDP.out.nd hil s), HD.out.dm.keep HF7.out (fun c hc => Or.inr (by omega)) (fun c hc => Or.inl hc) (fun c hc => Nat.lt_of_lt_of_le (HD.out.dm.xl c hc) HF7.out.size), hp_fr HD.out.hp HF7.out (by omega) (fun c hc e => by have := hvB c hc; omega), HD.out.kj.no hil HCY.out, own_same HD.out.ow (fun c hc => HF7.out.block c (HD.out.ow.lt c hc).2 (fun e => by have := (HD.out.ow.lt c hc).1; omega)), HD.out.vq, Nat.le_trans HD.out.sz HF7.out.size⟩)
                go_roundw
                case rel => exact ⟨i + 1, v, ss', by go_num, by omega, HPD⟩
                case measure => simp [intOf]; omega
            · obtain rfl : i = (Dc n).length := by omega
              have HPC := Lib.hid (show Pc w wr B m1 m2 pr g (C ++ [n]) v ss' v5 fd vd Dc from
                ⟨HD.out.bl, HD.out.ms.as (fun s _ => ms_end HG.out HDP.out HRD.out.no s), HD.out.dm, HD.out.hp, HDPA.out, HD.out.kj.done HG.out HKI.out HNS.out HLO.out HDP.out, HD.out.ow, HD.out.vq, HD.out.sz⟩)
              clear HD
              go_wp2_with fail
              go_roundw
              case rel => exact ⟨_, v, ss', HPC⟩
              case measure => rw [HL5.out, HLN.out]; have := HPK.out.1; omega
    · intro s c w4 ct4 hs hlk hf hrg hlt4 hg4 hsz4 hen
      obtain ⟨hns, hc⟩ := nodF_some hf
      obtain rfl : c = k s := by simpa using hc
      obtain ⟨q1, q2, q3, q4, q5, q6⟩ := HLay.out
      have hkl : k s < w.heap.size := HH.out.lt _ (HH.out.deps HG.out hns).2.2
      have hsd : ME w (k s) (memF (depsM g s)) := (HH.out.deps HG.out hns).2.1
      have hnd := (HG.out.deps_rise s).nodup
      have hdl : ∀ d ∈ depsM g s, d.length ≤ maxLen := fun d hd => HH.out.has_len (HG.out.dep_node hd)
      have hz : (depsM g s).length ≤ 100 := Nat.le_trans (nodup_len hnd fun d hd => HG.out.dep_node hd) HBD.out
      have hB4 := HP.out.pa.bl.grown hg4 HP.out.pa.bl.size (fun j hj => by cases hj; omega)
      have hs4 : ME w4 (k s) (memF (depsM g s)) := hsd.same (hB4.block _ hkl)
      obtain ⟨nn, DD, hDD, hDs⟩ := set_len hs4 hnd hdl
      have hms4 := HP.out.pa.ms.kept hg4 (fun e => by have := Option.some.inj e; omega)
      obtain ⟨w5, hr5, hm5, hg5⟩ := hms4.put Try.underlying9 (T := 69) Try.underlying69 (l := g.map (·.nm)) (fun s _ h => misL_in h) (by rw [List.length_map]; have := HBD.out; unfold maxLen; omega) (s := s) hs (v := .int .i64 ((depsM g s).length : Int)) rfl
      have hB5 := hB4.grown hg5 hB4.size (fun j hj => by cases hj; omega)
      have hs5 : ME w5 (k s) (memF (depsM g s)) := hsd.same (hB5.block _ hkl)
      obtain ⟨w6, c20, hr6, hR6, hb6, hs6⟩ := hs5.range Try.underlying9 (T := 57) Try.underlying57
      have hF6 : Fr (fun c => c = r1 ∨ c = m1) wr w6 := by
        have e1 : Fr (fun c => c = r1 ∨ c = m1) wr w4 := ⟨hg4.os, hg4.tape, hg4.output, hg4.size, fun i hi hn => hg4.block i hi (fun e => hn (Or.inl (Option.some.inj e)))⟩
        exact (e1.trans (fr_grown hg5) (fun i hi => Or.inl (Or.inr hi))).then hb6
      obtain ⟨r2, hr2⟩ : ∃ x, x = w5.heap.size := ⟨_, rfl⟩
      rw [← hr2] at hr6 hR6
      have hr2B : B ≤ r2 := by have := HP.out.pa.sz; have := hg4.size; have := hg5.size; omega
      have hvb : v.ownBlock ≠ some r2 := fun e => by have := (HP.out.pa.hp.1.ow.lt _ e).2; have := hg4.size; have := hg5.size; omega
      have HPB := Lib.hid (show Pb w w6 b B m1 m2 pr r1 r2 k g (fun x => lf x && !decide (x = s)) ct4 v ss s (fun x => (memF (depsM g s) x).isSome) c20 fd vd Dc from by
        refine ⟨⟨(hrg.kept hg5 (fun e => by have := Option.some.inj e; omega) (fun e => by have := Option.some.inj e; omega)).belowS hb6, below_of hB5 hb6, (hm5.as (fun x _ => misL_put hns x)).belowS hb6, hp_fr HP.out.pa.hp hF6 (by omega) (fun c hc hz => by have := (HP.out.pa.hp.1.ow.lt c hc).1; omega), Nat.le_trans HP.out.pa.sz hF6.size⟩, hR6, HP.out.dm.keep hF6 (fun c hc => Or.inr (by omega)) (fun c hc => hc.imp id (fun e => by have := hg4.size; have := hg5.size; omega)) (fun c hc => ?_), HP.out.dn, dc_start hlk HP.out.dc⟩
        rcases hc with hc | rfl
        · exact Nat.lt_of_lt_of_le (HP.out.pa.hp.1.ow.lt c hc).2 hF6.size
        · omega)
      have HSM := Lib.hid HP.out.sm
      have HSN := Lib.hid HP.out.sn
      have HLK := Lib.hid hlk
      have HNS := Lib.hid hns
      have HDN := Lib.hid hdl
      have HSD := Lib.hid hsd
      have HKL := Lib.hid hkl
      have HR2 := Lib.hid hr2B
      have HVB := Lib.hid hvb
      have HCT := Lib.hid hlt4
      have HZ := Lib.hid hz
      have HLE := Lib.hid HP.out.pa.rg.left_eq
      have HND := Lib.hid hnd
      have HSL := Lib.hid hs
      clear hs hlk hf hrg hg4 hsz4 hns hc hsd hnd hdl hkl hs4 hms4 hm5 hg5 hs5 hR6 hb6 hs6 hF6 hvb hr2B hB4 hB5 hz q1 q2 q3 q4 q5 q6 HP hlt4
      generalize depsM g s = ds0 at hr5 hDs
      clear hr2
      go_wp2_with (at_len; refine wpList_len_own _ rfl _ 57 rfl 9 59 Try.underlying57 _ _ nn DD rfl hDD ?_; rw [hDs])
      clear hr5 hr6 hDD hDs hen
      obtain ⟨X, hX⟩ : ∃ X, X = bs s := ⟨_, rfl⟩
      have HX := Lib.hid hX
      rw [← hX]
      clear hX
      go_loopw [8] (fun _ wr => ∃ (l2 : List UInt8 → Bool) (c2 : Nat) (fd : Tx → Option Value) (vd : Tx → Value) (Dc : Tx → List Tx), Hid (Pb w wr b B m1 m2 pr r1 r2 k g (fun x => lf x && !decide (x = s)) ct4 v ss s l2 c2 fd vd Dc)) (fun _ wr => wr.rangeLeft (k s) r2)
      case atStart => exact ⟨_, c20, fd, vd, Dc, HPB⟩
      case round =>
        clear HPB fd vd Dc
        obtain ⟨l2, c2, fd, vd, Dc, HI⟩ := hrel
        go_wp2_with (at_next; refine wpList_next_V rfl _ rfl Try.underlying9 (fun _ : Unit => uV) (memF_mk (depsM g s)) rfl HI.out.rg ?_ ?_)
        · intro hl2
          have hdc := dc_end (fun d hd => hl2 d (HDN.out d hd)) (by simp) HI.out.dc
          have hdm := HI.out.dm.keep (Fr.refl (fun _ => False) wr) (X' := fun c => v.ownBlock = some c) (fun c hc => hc.elim) (fun c hc => Or.inl (Or.inl hc)) (fun c hc => HI.out.dm.xl c (Or.inl hc))
          have HDM := Lib.hid hdm
          have HDC := Lib.hid hdc
          have HDN2 := Lib.hid HI.out.dn
          have HPA := Lib.hid HI.out.pa
          have hsw : ME wr (k s) (memF (depsM g s)) := HSD.out.same (HI.out.pa.bl.block _ HKL.out)
          obtain ⟨nn, DD, hDD, hDs⟩ := set_len hsw HND.out HDN.out
          clear hl2 hdc hdm hsw HI
          by_cases hnil : depsM g s = []
          · rw [hnil] at hDs
            have hni : s ∉ ss := fun hm => by have := ((HSM.out s).1 hm).2.1; rw [HLK.out] at this; cases this
            have hsl : ss.length < 80000 := by
              have := nodup_len (g := g) HSN.out (fun y hy => ((HSM.out y).1 hy).1)
              have := HBD.out
              omega
            have CA := Lib.hid (GH.add_any HPA.out.hp hsl HPA.out.sz s)
            rw [← HX.out] at CA
            have HNI := Lib.hid hnil
            have HNN := Lib.hid hni
            clear hnil hni hsl
            go_wp2_with (first
              | (at_len; refine wpList_len_own _ rfl _ 57 rfl 9 59 Try.underlying57 _ _ nn DD rfl hDD ?_; rw [hDs])
              | (go_at_call 43; (with_reducible refine CA.out.mono ?_); rintro e w8 ⟨rfl, v8, s8, hh8, hp8, hf8, hv8⟩; have HH8 := Lib.hid hh8; have HP8 := Lib.hid hp8; have HF8 := Lib.hid hf8; have HV8 := Lib.hid hv8; clear hh8 hp8 hf8 hv8))
            have HPO := Lib.hid (show Po w w8 b B m1 m2 pr r1 k g (fun x => lf x && !decide (x = s)) ct4 v8 s8 fd vd Dc from by
              obtain ⟨q1, q2, q3, q4, q5, q6⟩ := HLay.out
              have hvo : ∀ c, v.ownBlock = some c → B ≤ c := fun c hc => (HPA.out.hp.1.ow.lt c hc).1
              refine ⟨⟨rng_fr HPA.out.rg HF8.out (fun hz => hz.elim (fun e => by omega) (fun e => by have := hvo _ e; omega)) (fun hz => hz.elim (fun e => by omega) (fun e => by have := hvo _ e; omega)), HPA.out.bl.trans (HF8.out.below HPA.out.bl.size (fun c hc => hc.elim (fun e => by omega) (fun e => by have := hvo _ e; omega))), me_fr HPA.out.ms HF8.out (fun hz => hz.elim (fun e => by omega) (fun e => by have := hvo _ e; omega)), HH8.out, Nat.le_trans HPA.out.sz HF8.out.size⟩, HDM.out.keep HF8.out (fun c hc => hc.elim (fun e => Or.inr (by omega)) Or.inl) (fun c hc => HV8.out c hc) (fun c hc => (HH8.out.1.ow.lt c hc).2), HDN2.out, HDC.out, HP8.out.nodup_iff.2 (List.nodup_append.2 ⟨HSN.out, by simp, fun a ha b hb => by rw [List.mem_singleton] at hb; subst hb; exact fun e => HNN.out (e ▸ ha)⟩), fun y => ?_⟩
              rw [HP8.out.mem_iff, List.mem_append, List.mem_singleton, HSM.out]
              constructor
              · rintro (⟨h1, h2, h3⟩ | rfl)
                · exact ⟨h1, by simp [h2], h3⟩
                · exact ⟨HNS.out, by simp, HNI.out⟩
              · rintro ⟨h1, h2, h3⟩
                by_cases e : y = s
                · exact Or.inr e
                · exact Or.inl ⟨h1, by simpa [e] using h2, h3⟩)
            go_roundw
            case rel => exact ⟨_, ct4, _, _, _, _, _, HPO⟩
            case measure => rw [HPO.out.pa.rg.left_eq, HLE.out]; exact HCT.out
          · have hlz : ¬ ((depsM g s).length : Int) = 0 := fun e => hnil (List.length_eq_zero_iff.1 (by omega))
            have HNI := Lib.hid hnil
            have hz := HZ.out
            clear hnil
            have HPO := Lib.hid (show Po w wr b B m1 m2 pr r1 k g (fun x => lf x && !decide (x = s)) ct4 v ss fd vd Dc from by
              refine ⟨HPA.out, HDM.out, HDN2.out, HDC.out, HSN.out, fun y => ?_⟩
              rw [HSM.out]
              constructor
              · rintro ⟨h1, h2, h3⟩
                exact ⟨h1, by simp [h2], h3⟩
              · rintro ⟨h1, h2, h3⟩
                by_cases e : y = s
                · subst e; exact absurd h3 HNI.out
                · exact ⟨h1, by simpa [e] using h2, h3⟩)
            generalize (depsM g s).length = dl at hDs hlz hz
            go_wp2_with (at_len; refine wpList_len_own _ rfl _ 57 rfl 9 59 Try.underlying57 _ _ nn DD rfl hDD ?_; rw [hDs])
            go_roundw
            case rel => exact ⟨_, ct4, _, _, _, _, _, HPO⟩
            case measure => rw [HPO.out.pa.rg.left_eq, HLE.out]; exact HCT.out
        · intro d w7 c7 hs7 hlk7 hf7 hrg7 hlt7 hg7 hsz7 hen7
          have hd := memF_some hf7
          have hdn := HG.out.dep_node hd
          obtain ⟨q1, q2, q3, q4, q5, q6⟩ := HLay.out
          have hF7 : Fr (· = r2) wr w7 := ⟨hg7.os, hg7.tape, hg7.output, hg7.size, fun i hi hn => hg7.block i hi (fun e => hn (Option.some.inj e))⟩
          have hpa7 := HI.out.pa.fr HLay.out hF7 (fun c hc => Or.inr ⟨by have := HR2.out; omega, fun e => HVB.out (hc ▸ e)⟩)
          have hdm7 := HI.out.dm.keep hF7 (X' := fun c => v.ownBlock = some c ∨ c = r2) (fun c hc => Or.inl (Or.inr hc)) (fun c hc => Or.inl hc) (fun c hc => Nat.lt_of_lt_of_le (HI.out.dm.xl c hc) hF7.size)
          have hlook := hdm7.me.look (T := 70) Try.underlying9 Try.underlying70 zeroL rfl hs7
          rw [hdm7.lk d] at hlook
          have hDl : (Dc d).length ≤ 100 := Nat.le_trans (nodup_len (g := g) (HI.out.dn d) fun y hy => by
            rcases (HI.out.dc d y).1 hy with h1 | h1
            · exact dep_in h1.2.2
            · rw [h1.1]; exact HNS.out) HBD.out
          have hown7 := hdm7.ow d
          have hn16 : ((Dc d).length + 1) * 16 ≤ 140737488355328 := by omega
          have hnm : (Dc d).length + 1 ≤ maxLen := by unfold maxLen; omega
          have HPA7 := Lib.hid hpa7
          have HDM7 := Lib.hid hdm7
          have HO7 := Lib.hid hown7
          have HRG7 := Lib.hid hrg7
          have HD := Lib.hid hd
          have HDNN := Lib.hid hdn
          have HLK7 := Lib.hid hlk7
          have HC7 := Lib.hid hlt7
          have HRL := Lib.hid HI.out.rg.left_eq
          have HDN3 := Lib.hid HI.out.dn
          have HDC3 := Lib.hid HI.out.dc
          have HS7 := Lib.hid hs7
          have hBz : B ≤ w7.heap.size := hpa7.sz
          clear hs7 hlk7 hf7 hd hdn hrg7 hlt7 hg7 hsz7 hF7 hpa7 hdm7 hDl hown7 HI q1 q2 q3 q4 q5 q6
          go_wp2_with (at_builtin; refine wpList_append_own_at _ rfl _ _ 32 rfl B 9 i0 (.string ⟨#[]⟩) 1 16 Try.underlying32 hi hz0 hz1 hz2 rfl (by decide) (vd d) _ _ rfl (HO7.out.alloc _) ⟨w7.heap.size, 0, none⟩ 1 1 [.string X] rfl rfl ?c1 ?c2 hnm hn16 ?c5 ?_)
          case c1 =>
            intro j u hu
            cases j with
            | zero => simp at hu; subst hu; exact (Whole.new _ _ _).cell 0
            | succ j => simp at hu
          case c2 => intro u hu; simp at hu; subst hu; rfl
          case c5 => simp; omega
          intro v8 w8 ho8 hg8 _ hat8
          have hal := (Below.refl w7.heap.size w7).alloc (Nat.le_refl _) (.cells #[.string X] 9)
          have hvdB : ∀ c, (vd d).ownBlock = some c → B ≤ c := fun c hc => (HO7.out.lt c hc).1
          have hm2B : m2 < B := HDM7.out.lt
          have hme8 := (HDM7.out.me.belowS hal).kept hg8 (fun e => by have := hvdB _ e.symm; omega)
          obtain ⟨w9, hr9, hm9, hg9⟩ := hme8.put Try.underlying9 (T := 70) Try.underlying70 (l := g.map (·.nm)) (fun s _ h => by obtain ⟨x, hx, e⟩ := has_iff.1 (HDM7.out.ky s h); exact List.mem_map.2 ⟨x, hx, e⟩) (by rw [List.length_map]; have := HBD.out; unfold maxLen; omega) (s := d) HS7.out (v := v8) rfl
          have hF9 : Fr (fun c => c = m2 ∨ (vd d).ownBlock = some c) w7 w9 := (Fr_grown' ((Fr.refl (fun c => c = m2 ∨ (vd d).ownBlock = some c) w7).then hal) hg8 (fun i hi => Or.inl (Or.inr hi))).trans (fr_grown hg9) (fun i hi => Or.inl (Or.inl hi))
          have hxx := HDM7.out.xx d
          obtain ⟨hdn9, hdc9⟩ := dc_next HDN3.out HDC3.out HD.out HLK7.out
          have HPB := Lib.hid (show Pb w w9 b B m1 m2 pr r1 r2 k g (fun x => lf x && !decide (x = s)) ct4 v ss s (fun x => l2 x && !decide (x = d)) c7 (fun x => if x = d then some v8 else fd x) (fun x => if x = d then v8 else vd x) (fun x => if x = d then Dc d ++ [s] else Dc x) from by
            obtain ⟨q1, q2, q3, q4, q5, q6⟩ := HLay.out
            have hkl := HKL.out
            refine ⟨HPA7.out.fr HLay.out hF9 (fun c hc => hc.imp id (fun e => ⟨hvdB c e, fun e2 => hxx c e (Or.inl e2)⟩)), rng_fr HRG7.out hF9 (fun hz => hz.elim (fun e => by omega) (fun e => by have := hvdB _ e; omega)) (fun hz => hz.elim (fun e => by have := HR2.out; omega) (fun e => hxx _ e (Or.inr rfl))), HDM7.out.app HDNN.out hal (n := (Dc d).length + 1) ?_ rfl hg8 hat8 (by simp) hm9 hg9, hdn9, hdc9⟩
            have : strs (Dc d ++ [s]) = strs (Dc d) ++ [.string X] := by rw [HX.out]; simp [strs]
            rw [this]
            exact ho8)
          clear ho8 hg8 hat8 hal hvdB hme8 hm9 hg9 hF9 hxx hdn9 hdc9 hlook
          go_wp2_with fail
          go_roundw
          case rel => exact ⟨_, c7, _, _, _, HPB⟩
          case measure => rw [HPB.out.rg.left_eq, HRL.out]; exact HC7.out
end
end Go.Proofs.Ytijcojidfallkaa.GO
