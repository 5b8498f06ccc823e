/-
  The law LinkResolves, walked over what the program's functions tell. Nothing here is a statement of the seed.
-/
import Derived.Test.YtajidaicojekdaaLinkPrr
import Derived.Test.YtajidaicojekdaaLinkAwk
import Derived.Test.YtajidaicojekdaaLinkIms
set_option linter.unusedSimpArgs false
set_option linter.unusedVariables false
namespace Go.Proofs.Ytajidaicojekdaa.WK
open Go.RowKit WM NR OM OR SM SR SF SP KO KT KF
set_option maxHeartbeats 4000000
set_option maxRecDepth 10000
section
variable {w : World} {a : Option Addr} {n c : Nat} {l : List Ow} {na : Option Addr} {nn nc : Nat} {ns : List (List UInt8)}
theorem LinkResolves_walk (h : ReadsO (· < w.heap.size) w (.slice a n c) l) (hs : ∀ x ∈ l, x.nm.length ≤ 2097152 ∧ ∀ s ∈ x.ns, s.length ≤ 2097152) (hn : Reads (· < w.heap.size) w (.slice na nn nc) (strs ns)) (hns : ∀ s ∈ ns, s.length ≤ 9223372036854775807) :
    Calls Try.prog 3 #[.slice a n c, .slice na nn nc] w fun e w' => e = .returned (.bool true) ∧ Below w.heap.size w w' := by
  obtain ⟨n1, m1, m2⟩ := h.len
  obtain ⟨n3, m3, m4⟩ := reads_len hn
  rw [strs_len] at n3
  unfold maxLen at m2 m4
  have hnz : (n : Int) ≤ 9223372036854775807 := by omega
  have hnn : (nn : Int) ≤ 9223372036854775807 := by omega
  have AW := Lib.hid awk16
  by_cases hle : n ≤ 20 ∧ nn ≤ 100
  · obtain ⟨h20, h100⟩ := hle
    have h20' : ¬ (20 : Int) < n := by omega
    have h100' : ¬ (100 : Int) < nn := by omega
    have HA := Lib.hid h
    have HS : Hid (∀ k, k < n → (l.getD k ow0).nm.length ≤ 2097152 ∧ ∀ s ∈ (l.getD k ow0).ns, s.length ≤ 2097152) := Lib.hid (fun k hk => hs _ (by rw [List.getD_eq_getElem?_getD, List.getElem?_eq_getElem (by omega)]; exact List.getElem_mem _))
    have HL := Lib.hid n1
    have HN := Lib.hid hn
    have HNS := Lib.hid hns
    have HLN := Lib.hid n3
    clear h hs n1 m2 hn hns n3 m4
    have q2 : (n : Int) ≤ c := by omega
    have q3 : (nn : Int) ≤ nc := by omega
    go_enter Try.func3, Try.ntmps3
    go_upto_region 4 with (go_at_call 10; (with_reducible refine (new_any _).mono ?_); rintro e w2 ⟨v, S, rfl, hP, hS, hb2⟩; have P2 := Lib.hid hP; have S2 := Lib.hid hS; have B2 := Lib.hid hb2; clear hP hS hb2)
    have bn := below_new w2 (.cells #[.slice none 0 0, .slice none 0 0] 29)
    have J0 : Hid (PX w w2.heap.size (fun _ => False) S (w2.alloc (.cells #[.slice none 0 0, .slice none 0 0] 29)) v none 0 0 none 0 0 ⟨[], []⟩ ⟨[], []⟩) := Lib.hid ⟨Whole.new _ _ _, P2.out.keep bn.size (fun g hg => bn.block g (P2.out.lt g hg)), RdT.zero _ _, fun g hg => hg.elim, B2.out.trans (bn.mono B2.out.size), fun g hg => ⟨S2.out g hg, fun e => by have := P2.out.lt g hg; omega⟩, fun g hg => hg.elim, B2.out.size⟩
    obtain ⟨va, rfl⟩ := P2.out.form
    clear bn P2 S2 B2
    generalize w2.alloc (.cells #[.slice none 0 0, .slice none 0 0] 29) = W3 at *
    generalize w2.heap.size = p at *
    go_wp2_with fail
    go_loopw [7] (fun i wr => ∃ k : Nat, k ≤ n ∧ i = .int .i64 (k : Int) ∧ ∃ G S ma mn mc la ln lc, Hid (PX w p G S wr (.pointer (some va)) ma mn mc la ln lc (tabM ⟨[], []⟩ (l.take k)) (tabM ⟨[], []⟩ (l.take k)))) (fun i _ => n - (intOf i).toNat)
    case atStart => exact ⟨0, by omega, rfl, _, _, _, _, _, _, _, _, J0⟩
    case round =>
      obtain ⟨k, hk, rfl, G, S, ma, mn, mc, la, ln, lc, J⟩ := hrel
      clear J0
      by_cases hlt : k < n
      · have hlt' : (k : Int) < n := by omega
        have hbd := tab_bd l k (by omega)
        have hgd := tab_good (l.take k) _ good_nil
        obtain ⟨g, off, rfl, q1, hat, hok⟩ := HA.out.at J.out.B hlt
        have hb0 : Below wr.heap.size wr wr.drew := (Below.refl _ _).drew
        have J1 := Lib.hid (J.out.belowS hb0)
        have KA : Hid (∀ u, Below w.heap.size w u → OwAt u g (off + k * 3) (l.getD k ow0) ∧ OwOk (· < w.heap.size) u (l.getD k ow0)) := Lib.hid (fun u hu => by
          obtain ⟨g', off', e, _, e1, e2⟩ := HA.out.at hu hlt
          simp only [Option.some.injEq, Addr.mk.injEq, and_true] at e
          obtain ⟨rfl, rfl⟩ := e
          exact ⟨e1, e2⟩)
        have hrt := tabM_take ⟨[], []⟩ l k (by rw [HL.out]; exact hlt)
        have hxs := HS.out k hlt
        obtain ⟨T, hT⟩ : ∃ T, T = tabM ⟨[], []⟩ (l.take k) := ⟨_, rfl⟩
        rw [← hT] at J J1 hbd hgd hrt
        obtain ⟨X, hX⟩ : ∃ X, X = l.getD k ow0 := ⟨_, rfl⟩
        rw [← hX] at KA hat hok hrt hxs
        have HRT := Lib.hid hrt
        clear hT hX hrt
        obtain ⟨xn, xg, oa, on, oc, os⟩ := X
        obtain ⟨x1, x2, x3⟩ := hok.len
        simp only at x1 x2 x3 hxs
        have hgt := hok.gate
        simp only at hgt
        unfold maxLen at x3
        have x2' : (on : Int) ≤ oc := by omega
        have x3' : (on : Int) ≤ 9223372036854775807 := by omega
        have CP : Hid (∀ u, PX w p G S u (.pointer (some va)) ma mn mc la ln lc T T → Calls Try.prog 11 #[.pointer (some va), .string (bs xn), .int .i64 xg, .slice oa on oc] u fun e u' => e = .returned (.int .i64 (addM T xn xg os).2) ∧ Chg S u (.pointer (some va)) (addM T xn xg os).1 u') := Lib.hid (fun u hj => add_any hj.P hgd hbd xn (by omega) xg hgt (hj.own (KA.out u hj.B).2).ns (fun x hx => by have := hxs.2 x hx; omega))
        have CR : Hid (∀ (S : Nat → Prop) (u : World) (A : Tb), PX w p G S u (.pointer (some va)) ma mn mc la ln lc A T → Calls Try.prog 12 #[tbV ma mn mc la ln lc, .string (bs xn), .int .i64 xg, .slice oa on oc] u (IsT G (addM T xn xg os).1 (addM T xn xg os).2 u)) := Lib.hid (fun S u A hj => by
          obtain ⟨lm, ll, _, _⟩ := hj.R.lens
          exact refAdd_any hj.R (fun g hg => (hj.GS g hg).2) ((hj.own (KA.out u hj.B).2).ns.mono fun g hg => hg.2) (by omega) (fun e he => chk_size (hgd.nms e he)) xn hxs.1 hxs.2 xg hgt)
        have KB : Hid (∀ u : World, Below w.heap.size w u → u.cell? ⟨g, off + k * 3, none⟩ = some (.string (bs xn)) ∧ u.cell? ⟨g, off + k * 3 + 1, none⟩ = some (.int .i64 xg) ∧ u.cell? ⟨g, off + k * 3 + 2, none⟩ = some (.slice oa on oc)) := Lib.hid (fun u hu => (KA.out u hu).1)
        clear hbd hgd hat hok hgt hxs KA
        unfold IsT at CR
        have HF8 : Hid (on ≤ 8 → tabM ⟨[], []⟩ (l.take (k + 1)) = (addM T xn xg os).1) := Lib.hid (fun h8 => by rw [HRT.out]; unfold ownM; rw [if_pos (by simp only; omega)])
        have HF9 : Hid (¬ on ≤ 8 → tabM ⟨[], []⟩ (l.take (k + 1)) = T) := Lib.hid (fun h8 => by rw [HRT.out]; unfold ownM; rw [if_neg (by simp only; omega)])
        clear HRT x1
        generalize bs xn = y at *
        generalize addM T xn xg os = AT at *
        by_cases h8 : on ≤ 8
        · have h8' : (on : Int) ≤ 8 := by omega
          have K0 := KB.out _ J1.out.B
          obtain ⟨k0, k1, k2⟩ := KB.out _ J.out.B
          go_upto_region 8 with fail
          clear k0 k1 k2
          have HC := Lib.hid (CP.out _ J1.out)
          refine wp_region_held_drew (S := fun u => u.cell? ⟨g, off + k * 3, none⟩ = some (.string y) ∧ u.cell? ⟨g, off + k * 3 + 1, none⟩ = some (.int .i64 xg) ∧ u.cell? ⟨g, off + k * 3 + 2, none⟩ = some (.slice oa on oc)) (by kernel_rfl) K0 (fun hHeld => ?_)
          refine wpAnyH_take (i := 0) (v := ?avv0) rfl (by kernel_rfl) (by kernel_rfl) (by kernel_rfl) (fun _ _ _ h => h) (Or.inl ⟨by rfl, ?ahy0⟩) (by assumption) ?arest0
          case ahy0 =>
            intro u hSu
            obtain ⟨s0, s1, s2⟩ := hSu
            go_simp
            try with_reducible rfl
          try simp only [Act.put, List.getElem_toArray, List.getElem_cons_succ, List.getElem_cons_zero, List.setIfInBounds_toArray, List.set_cons_zero, List.set_cons_succ]
          refine wpAnyH_take (i := 1) (v := ?avv1) rfl (by kernel_rfl) (by kernel_rfl) (by kernel_rfl) (fun _ _ _ h => h) (Or.inl ⟨by rfl, ?ahy1⟩) (by assumption) ?arest1
          case ahy1 =>
            intro u hSu
            obtain ⟨s0, s1, s2⟩ := hSu
            go_simp
            try with_reducible rfl
          try simp only [Act.put, List.getElem_toArray, List.getElem_cons_succ, List.getElem_cons_zero, List.setIfInBounds_toArray, List.set_cons_zero, List.set_cons_succ]
          refine wpAnyH_take (i := 2) (v := ?avv2) rfl (by kernel_rfl) (by kernel_rfl) (by kernel_rfl) (fun _ _ _ h => h) (Or.inl ⟨by rfl, ?ahy2⟩) (by assumption) ?arest2
          case ahy2 =>
            intro u hSu
            obtain ⟨s0, s1, s2⟩ := hSu
            go_simp
            try with_reducible rfl
          try simp only [Act.put, List.getElem_toArray, List.getElem_cons_succ, List.getElem_cons_zero, List.setIfInBounds_toArray, List.set_cons_zero, List.set_cons_succ]
          refine wpAnyH_take (i := 3) (v := ?avv3) rfl (by kernel_rfl) (by kernel_rfl) (by kernel_rfl) (fun _ _ _ h => h) (Or.inl ⟨by rfl, ?ahy3⟩) (by assumption) ?arest3
          case ahy3 =>
            intro u hSu
            obtain ⟨s0, s1, s2⟩ := hSu
            go_simp
            try with_reducible rfl
          try simp only [Act.put, List.getElem_toArray, List.getElem_cons_succ, List.getElem_cons_zero, List.setIfInBounds_toArray, List.set_cons_zero, List.set_cons_succ]
          refine wpAnyH_take (i := 4) (v := ?avv4) rfl (by kernel_rfl) (by kernel_rfl) (by kernel_rfl) (fun _ _ _ h => h) (Or.inl ⟨by rfl, ?ahy4⟩) (by assumption) ?arest4
          case ahy4 =>
            intro u hSu
            obtain ⟨s0, s1, s2⟩ := hSu
            go_simp
            try with_reducible rfl
          try simp only [Act.put, List.getElem_toArray, List.getElem_cons_succ, List.getElem_cons_zero, List.setIfInBounds_toArray, List.set_cons_zero, List.set_cons_succ]
          refine wpAnyH_take (i := 5) (v := ?avv5) rfl (by kernel_rfl) (by kernel_rfl) (by kernel_rfl) (fun _ _ _ h => h) (Or.inl ⟨by rfl, ?ahy5⟩) (by assumption) ?arest5
          case ahy5 =>
            intro u hSu
            obtain ⟨s0, s1, s2⟩ := hSu
            go_simp
            try with_reducible rfl
          try simp only [Act.put, List.getElem_toArray, List.getElem_cons_succ, List.getElem_cons_zero, List.setIfInBounds_toArray, List.set_cons_zero, List.set_cons_succ]
          refine wpAnyH_take (i := 6) (v := ?avv6) rfl (by kernel_rfl) (by kernel_rfl) (by kernel_rfl) (fun _ _ _ h => h) (Or.inl ⟨by rfl, ?ahy6⟩) (by assumption) ?arest6
          case ahy6 =>
            intro u hSu
            obtain ⟨s0, s1, s2⟩ := hSu
            go_simp
            try with_reducible rfl
          try simp only [Act.put, List.getElem_toArray, List.getElem_cons_succ, List.getElem_cons_zero, List.setIfInBounds_toArray, List.set_cons_zero, List.set_cons_succ]
          refine wpAnyH_take (i := 7) (v := ?avv7) rfl (by kernel_rfl) (by kernel_rfl) (by kernel_rfl) (fun _ _ _ h => h) (Or.inl ⟨by rfl, ?ahy7⟩) (by assumption) ?arest7
          case ahy7 =>
            intro u hSu
            obtain ⟨s0, s1, s2⟩ := hSu
            go_simp
            try with_reducible rfl
          try simp only [Act.put, List.getElem_toArray, List.getElem_cons_succ, List.getElem_cons_zero, List.setIfInBounds_toArray, List.set_cons_zero, List.set_cons_succ]
          refine wpAnyH_take (i := 8) (v := ?avv8) rfl (by kernel_rfl) (by kernel_rfl) (by kernel_rfl) (fun _ _ _ h => h) (Or.inl ⟨by rfl, ?ahy8⟩) (by assumption) ?arest8
          case ahy8 =>
            intro u hSu
            obtain ⟨s0, s1, s2⟩ := hSu
            go_simp
            try with_reducible rfl
          try simp only [Act.put, List.getElem_toArray, List.getElem_cons_succ, List.getElem_cons_zero, List.setIfInBounds_toArray, List.set_cons_zero, List.set_cons_succ]
          refine wpAnyH_take (i := 9) (v := ?avv9) rfl (by kernel_rfl) (by kernel_rfl) (by kernel_rfl) (fun _ _ _ h => h) (Or.inl ⟨by rfl, ?ahy9⟩) (by assumption) ?arest9
          case ahy9 =>
            intro u hSu
            obtain ⟨s0, s1, s2⟩ := hSu
            go_simp
            try with_reducible rfl
          try simp only [Act.put, List.getElem_toArray, List.getElem_cons_succ, List.getElem_cons_zero, List.setIfInBounds_toArray, List.set_cons_zero, List.set_cons_succ]
          refine wpAnyH_take (i := 10) (v := ?avv10) rfl (by kernel_rfl) (by kernel_rfl) (by kernel_rfl) (fun _ _ _ h => h) (Or.inl ⟨by rfl, ?ahy10⟩) (by assumption) ?arest10
          case ahy10 =>
            intro u hSu
            obtain ⟨s0, s1, s2⟩ := hSu
            go_simp
            try with_reducible rfl
          try simp only [Act.put, List.getElem_toArray, List.getElem_cons_succ, List.getElem_cons_zero, List.setIfInBounds_toArray, List.set_cons_zero, List.set_cons_succ]
          refine wpAnyH_take (i := 11) (v := ?avv11) rfl (by kernel_rfl) (by kernel_rfl) (by kernel_rfl) (fun _ _ _ h => h) (Or.inl ⟨by rfl, ?ahy11⟩) (by assumption) ?arest11
          case ahy11 =>
            intro u hSu
            obtain ⟨s0, s1, s2⟩ := hSu
            go_simp
            try with_reducible rfl
          try simp only [Act.put, List.getElem_toArray, List.getElem_cons_succ, List.getElem_cons_zero, List.setIfInBounds_toArray, List.set_cons_zero, List.set_cons_succ]
          refine wpAnyH_take (i := 12) (v := ?avv12) rfl (by kernel_rfl) (by kernel_rfl) (by kernel_rfl) (fun _ _ _ h => h) (Or.inl ⟨by rfl, ?ahy12⟩) (by assumption) ?arest12
          case ahy12 =>
            intro u hSu
            obtain ⟨s0, s1, s2⟩ := hSu
            go_simp
            try with_reducible rfl
          try simp only [Act.put, List.getElem_toArray, List.getElem_cons_succ, List.getElem_cons_zero, List.setIfInBounds_toArray, List.set_cons_zero, List.set_cons_succ]
          refine wpAnyH_take (i := 13) (v := ?avv13) rfl (by kernel_rfl) (by kernel_rfl) (by kernel_rfl) (fun _ _ _ h => h) (Or.inl ⟨by rfl, ?ahy13⟩) (by assumption) ?arest13
          case ahy13 =>
            intro u hSu
            obtain ⟨s0, s1, s2⟩ := hSu
            go_simp
            try with_reducible rfl
          try simp only [Act.put, List.getElem_toArray, List.getElem_cons_succ, List.getElem_cons_zero, List.setIfInBounds_toArray, List.set_cons_zero, List.set_cons_succ]
          refine wpAnyH_take (i := 14) (v := ?avv14) rfl (by kernel_rfl) (by kernel_rfl) (by kernel_rfl) (fun _ _ _ h => h) (Or.inl ⟨by rfl, ?ahy14⟩) (by assumption) ?arest14
          case ahy14 =>
            intro u hSu
            obtain ⟨s0, s1, s2⟩ := hSu
            go_simp
            try with_reducible rfl
          try simp only [Act.put, List.getElem_toArray, List.getElem_cons_succ, List.getElem_cons_zero, List.setIfInBounds_toArray, List.set_cons_zero, List.set_cons_succ]
          refine wpAnyH_take (i := 15) (v := ?avv15) rfl (by kernel_rfl) (by kernel_rfl) (by kernel_rfl) (fun _ _ _ h => h) (Or.inl ⟨by rfl, ?ahy15⟩) (by assumption) ?arest15
          case ahy15 =>
            intro u hSu
            obtain ⟨s0, s1, s2⟩ := hSu
            go_simp
            try with_reducible rfl
          try simp only [Act.put, List.getElem_toArray, List.getElem_cons_succ, List.getElem_cons_zero, List.setIfInBounds_toArray, List.set_cons_zero, List.set_cons_succ]
          refine wpAnyH_ready (rs := [16]) (by kernel_rfl) (by simp) ?_
          refine AllReadyH.cons rfl (fun K hK => ?_) AllReadyH.nil
          (go_simp; go_at_call 11; (with_reducible refine (HC.out).mono ?_); rintro e w5 ⟨rfl, hch⟩; obtain ⟨S', J5'⟩ := J1.out.chg hch; have J5 := Lib.hid J5'; have K5 := KB.out _ J5'.B; clear hch J5')
          refine hK.out _ _ ?ahS16 (fun hHeld => ?arest16)
          case ahS16 => first | exact K5 | exact K0
          clear hK K
          try simp only [Act.put, List.getElem_toArray, List.getElem_cons_succ, List.getElem_cons_zero, List.setIfInBounds_toArray, List.set_cons_zero, List.set_cons_succ]
          refine wpAnyH_done (by kernel_rfl) ?_ _
          clear K0 K5 J1 J HC CP
          go_upto_region 9 with fail
          have hb6 : Below w5.heap.size w5 w5.drew := (Below.refl _ _).drew
          have J6 := Lib.hid (J5.out.belowS hb6)
          have K0 := KB.out _ J6.out.B
          obtain ⟨z0, z1⟩ := two_cells J6.out.Z
          have z6 := J6.out.Z.lt
          have HC := Lib.hid (CR.out _ _ _ J6.out)
          clear CR J5 hb6
          refine wp_region_held_drew (S := fun u => u.cell? ⟨g, off + k * 3, none⟩ = some (.string y) ∧ u.cell? ⟨g, off + k * 3 + 1, none⟩ = some (.int .i64 xg) ∧ u.cell? ⟨g, off + k * 3 + 2, none⟩ = some (.slice oa on oc)) (by kernel_rfl) K0 (fun hHeld => ?_)
          generalize w5.drew = D at *
          refine wpAnyH_take (i := 1) (v := ?bvv1) rfl (by kernel_rfl) (by kernel_rfl) (by kernel_rfl) (fun _ _ _ h => h) (Or.inl ⟨by rfl, ?bhy1⟩) (by assumption) ?brest1
          case bhy1 =>
            intro u hSu
            obtain ⟨s0, s1, s2⟩ := hSu
            go_simp
            try with_reducible rfl
          try simp only [Act.put, List.getElem_toArray, List.getElem_cons_succ, List.getElem_cons_zero, List.setIfInBounds_toArray, List.set_cons_zero, List.set_cons_succ]
          refine wpAnyH_take (i := 2) (v := ?bvv2) rfl (by kernel_rfl) (by kernel_rfl) (by kernel_rfl) (fun _ _ _ h => h) (Or.inl ⟨by rfl, ?bhy2⟩) (by assumption) ?brest2
          case bhy2 =>
            intro u hSu
            obtain ⟨s0, s1, s2⟩ := hSu
            go_simp
            try with_reducible rfl
          try simp only [Act.put, List.getElem_toArray, List.getElem_cons_succ, List.getElem_cons_zero, List.setIfInBounds_toArray, List.set_cons_zero, List.set_cons_succ]
          refine wpAnyH_take (i := 3) (v := ?bvv3) rfl (by kernel_rfl) (by kernel_rfl) (by kernel_rfl) (fun _ _ _ h => h) (Or.inl ⟨by rfl, ?bhy3⟩) (by assumption) ?brest3
          case bhy3 =>
            intro u hSu
            obtain ⟨s0, s1, s2⟩ := hSu
            go_simp
            try with_reducible rfl
          try simp only [Act.put, List.getElem_toArray, List.getElem_cons_succ, List.getElem_cons_zero, List.setIfInBounds_toArray, List.set_cons_zero, List.set_cons_succ]
          refine wpAnyH_take (i := 4) (v := ?bvv4) rfl (by kernel_rfl) (by kernel_rfl) (by kernel_rfl) (fun _ _ _ h => h) (Or.inl ⟨by rfl, ?bhy4⟩) (by assumption) ?brest4
          case bhy4 =>
            intro u hSu
            obtain ⟨s0, s1, s2⟩ := hSu
            go_simp
            try with_reducible rfl
          try simp only [Act.put, List.getElem_toArray, List.getElem_cons_succ, List.getElem_cons_zero, List.setIfInBounds_toArray, List.set_cons_zero, List.set_cons_succ]
          refine wpAnyH_take (i := 5) (v := ?bvv5) rfl (by kernel_rfl) (by kernel_rfl) (by kernel_rfl) (fun _ _ _ h => h) (Or.inl ⟨by rfl, ?bhy5⟩) (by assumption) ?brest5
          case bhy5 =>
            intro u hSu
            obtain ⟨s0, s1, s2⟩ := hSu
            go_simp
            try with_reducible rfl
          try simp only [Act.put, List.getElem_toArray, List.getElem_cons_succ, List.getElem_cons_zero, List.setIfInBounds_toArray, List.set_cons_zero, List.set_cons_succ]
          refine wpAnyH_take (i := 6) (v := ?bvv6) rfl (by kernel_rfl) (by kernel_rfl) (by kernel_rfl) (fun _ _ _ h => h) (Or.inl ⟨by rfl, ?bhy6⟩) (by assumption) ?brest6
          case bhy6 =>
            intro u hSu
            obtain ⟨s0, s1, s2⟩ := hSu
            go_simp
            try with_reducible rfl
          try simp only [Act.put, List.getElem_toArray, List.getElem_cons_succ, List.getElem_cons_zero, List.setIfInBounds_toArray, List.set_cons_zero, List.set_cons_succ]
          refine wpAnyH_take (i := 7) (v := ?bvv7) rfl (by kernel_rfl) (by kernel_rfl) (by kernel_rfl) (fun _ _ _ h => h) (Or.inl ⟨by rfl, ?bhy7⟩) (by assumption) ?brest7
          case bhy7 =>
            intro u hSu
            obtain ⟨s0, s1, s2⟩ := hSu
            go_simp
            try with_reducible rfl
          try simp only [Act.put, List.getElem_toArray, List.getElem_cons_succ, List.getElem_cons_zero, List.setIfInBounds_toArray, List.set_cons_zero, List.set_cons_succ]
          refine wpAnyH_take (i := 8) (v := ?bvv8) rfl (by kernel_rfl) (by kernel_rfl) (by kernel_rfl) (fun _ _ _ h => h) (Or.inl ⟨by rfl, ?bhy8⟩) (by assumption) ?brest8
          case bhy8 =>
            intro u hSu
            obtain ⟨s0, s1, s2⟩ := hSu
            go_simp
            try with_reducible rfl
          try simp only [Act.put, List.getElem_toArray, List.getElem_cons_succ, List.getElem_cons_zero, List.setIfInBounds_toArray, List.set_cons_zero, List.set_cons_succ]
          refine wpAnyH_take (i := 9) (v := ?bvv9) rfl (by kernel_rfl) (by kernel_rfl) (by kernel_rfl) (fun _ _ _ h => h) (Or.inl ⟨by rfl, ?bhy9⟩) (by assumption) ?brest9
          case bhy9 =>
            intro u hSu
            obtain ⟨s0, s1, s2⟩ := hSu
            go_simp
            try with_reducible rfl
          try simp only [Act.put, List.getElem_toArray, List.getElem_cons_succ, List.getElem_cons_zero, List.setIfInBounds_toArray, List.set_cons_zero, List.set_cons_succ]
          refine wpAnyH_take (i := 10) (v := ?bvv10) rfl (by kernel_rfl) (by kernel_rfl) (by kernel_rfl) (fun _ _ _ h => h) (Or.inl ⟨by rfl, ?bhy10⟩) (by assumption) ?brest10
          case bhy10 =>
            intro u hSu
            obtain ⟨s0, s1, s2⟩ := hSu
            go_simp
            try with_reducible rfl
          try simp only [Act.put, List.getElem_toArray, List.getElem_cons_succ, List.getElem_cons_zero, List.setIfInBounds_toArray, List.set_cons_zero, List.set_cons_succ]
          refine wpAnyH_take (i := 11) (v := ?bvv11) rfl (by kernel_rfl) (by kernel_rfl) (by kernel_rfl) (fun _ _ _ h => h) (Or.inl ⟨by rfl, ?bhy11⟩) (by assumption) ?brest11
          case bhy11 =>
            intro u hSu
            obtain ⟨s0, s1, s2⟩ := hSu
            go_simp
            try with_reducible rfl
          try simp only [Act.put, List.getElem_toArray, List.getElem_cons_succ, List.getElem_cons_zero, List.setIfInBounds_toArray, List.set_cons_zero, List.set_cons_succ]
          refine wpAnyH_take (i := 12) (v := ?bvv12) rfl (by kernel_rfl) (by kernel_rfl) (by kernel_rfl) (fun _ _ _ h => h) (Or.inl ⟨by rfl, ?bhy12⟩) (by assumption) ?brest12
          case bhy12 =>
            intro u hSu
            obtain ⟨s0, s1, s2⟩ := hSu
            go_simp
            try with_reducible rfl
          try simp only [Act.put, List.getElem_toArray, List.getElem_cons_succ, List.getElem_cons_zero, List.setIfInBounds_toArray, List.set_cons_zero, List.set_cons_succ]
          refine wpAnyH_take (i := 13) (v := ?bvv13) rfl (by kernel_rfl) (by kernel_rfl) (by kernel_rfl) (fun _ _ _ h => h) (Or.inl ⟨by rfl, ?bhy13⟩) (by assumption) ?brest13
          case bhy13 =>
            intro u hSu
            obtain ⟨s0, s1, s2⟩ := hSu
            go_simp
            try with_reducible rfl
          try simp only [Act.put, List.getElem_toArray, List.getElem_cons_succ, List.getElem_cons_zero, List.setIfInBounds_toArray, List.set_cons_zero, List.set_cons_succ]
          refine wpAnyH_take (i := 14) (v := ?bvv14) rfl (by kernel_rfl) (by kernel_rfl) (by kernel_rfl) (fun _ _ _ h => h) (Or.inl ⟨by rfl, ?bhy14⟩) (by assumption) ?brest14
          case bhy14 =>
            intro u hSu
            obtain ⟨s0, s1, s2⟩ := hSu
            go_simp
            try with_reducible rfl
          try simp only [Act.put, List.getElem_toArray, List.getElem_cons_succ, List.getElem_cons_zero, List.setIfInBounds_toArray, List.set_cons_zero, List.set_cons_succ]
          refine wpAnyH_take (i := 15) (v := ?bvv15) rfl (by kernel_rfl) (by kernel_rfl) (by kernel_rfl) (fun _ _ _ h => h) (Or.inl ⟨by rfl, ?bhy15⟩) (by assumption) ?brest15
          case bhy15 =>
            intro u hSu
            obtain ⟨s0, s1, s2⟩ := hSu
            go_simp
            try with_reducible rfl
          try simp only [Act.put, List.getElem_toArray, List.getElem_cons_succ, List.getElem_cons_zero, List.setIfInBounds_toArray, List.set_cons_zero, List.set_cons_succ]
          refine wpAnyH_ready (rs := [0]) (by kernel_rfl) (by simp) ?_
          refine AllReadyH.cons rfl (fun K hK => ?_) AllReadyH.nil
          go_simp
          refine hK.out _ _ ?bhS0 (fun hHeld => ?brest0)
          case bhS0 => first | exact K9 | exact K8 | exact K0
          clear hK K
          try simp only [Act.put, List.getElem_toArray, List.getElem_cons_succ, List.getElem_cons_zero, List.setIfInBounds_toArray, List.set_cons_zero, List.set_cons_succ]
          refine wpAnyH_ready (rs := [16]) (by kernel_rfl) (by simp) ?_
          refine AllReadyH.cons rfl (fun K hK => ?_) AllReadyH.nil
          (go_simp; go_at_call 12; (with_reducible refine (HC.out).mono ?_); rintro e w8 ⟨ma', mn', mc', la', ln', lc', rfl, hR, hbR⟩; obtain ⟨zz, J9'⟩ := J6.out.ref hR hbR; have J9 := Lib.hid J9'; have K8 := KB.out _ (J6.out.B.trans (hbR.mono J6.out.B.size)); have K9 := KB.out _ J9'.B; have y0 := zz.cell 0; have y1 := zz.cell 1; have y6 := zz.lt; have yf0 := zz.frozen 0; have yf1 := zz.frozen 1; clear hR hbR J9' zz)
          refine hK.out _ _ ?bhS16 (fun hHeld => ?brest16)
          case bhS16 => first | exact K9 | exact K8 | exact K0
          clear hK K
          try simp only [Act.put, List.getElem_toArray, List.getElem_cons_succ, List.getElem_cons_zero, List.setIfInBounds_toArray, List.set_cons_zero, List.set_cons_succ]
          refine wpAnyH_take (i := 17) (v := ?bvv17) rfl (by kernel_rfl) (by kernel_rfl) (by kernel_rfl) (fun _ _ _ h => h) (Or.inl ⟨by rfl, ?bhy17⟩) (by assumption) ?brest17
          case bhy17 =>
            intro u hSu
            obtain ⟨s0, s1, s2⟩ := hSu
            go_simp
            try with_reducible rfl
          try simp only [Act.put, List.getElem_toArray, List.getElem_cons_succ, List.getElem_cons_zero, List.setIfInBounds_toArray, List.set_cons_zero, List.set_cons_succ]
          refine wpAnyH_take (i := 18) (v := ?bvv18) rfl (by kernel_rfl) (by kernel_rfl) (by kernel_rfl) (fun _ _ _ h => h) (Or.inl ⟨by rfl, ?bhy18⟩) (by assumption) ?brest18
          case bhy18 =>
            intro u hSu
            obtain ⟨s0, s1, s2⟩ := hSu
            go_simp
            try with_reducible rfl
          try simp only [Act.put, List.getElem_toArray, List.getElem_cons_succ, List.getElem_cons_zero, List.setIfInBounds_toArray, List.set_cons_zero, List.set_cons_succ]
          refine wpAnyH_take (i := 19) (v := ?bvv19) rfl (by kernel_rfl) (by kernel_rfl) (by kernel_rfl) (fun _ _ _ h => h) (Or.inl ⟨by rfl, ?bhy19⟩) (by assumption) ?brest19
          case bhy19 =>
            intro u hSu
            obtain ⟨s0, s1, s2⟩ := hSu
            go_simp
            try with_reducible rfl
          try simp only [Act.put, List.getElem_toArray, List.getElem_cons_succ, List.getElem_cons_zero, List.setIfInBounds_toArray, List.set_cons_zero, List.set_cons_succ]
          refine wpAnyH_ready (rs := [20]) (by kernel_rfl) (by simp) ?_
          refine AllReadyH.cons rfl (fun K hK => ?_) AllReadyH.nil
          go_simp
          refine hK.out _ _ ?bhS20 (fun hHeld => ?brest20)
          case bhS20 => first | exact K9 | exact K8 | exact K0
          clear hK K
          try simp only [Act.put, List.getElem_toArray, List.getElem_cons_succ, List.getElem_cons_zero, List.setIfInBounds_toArray, List.set_cons_zero, List.set_cons_succ]
          refine wpAnyH_done (by kernel_rfl) ?_ _
          clear K0 K8 K9 z0 z1 z6 y0 y1 y6 yf0 yf1 J6 HC
          have HE := HF8.out h8
          go_wp2_with fail
          go_roundw
          case rel => exact ⟨k + 1, by omega, by go_num, _, _, _, _, _, _, _, _, by rw [HE]; exact J9⟩
          case measure => simp [intOf]; omega
        · have h8' : ¬ (on : Int) ≤ 8 := by omega
          have HE := HF9.out h8
          obtain ⟨k0, k1, k2⟩ := KB.out _ J.out.B
          go_wp2_with fail
          go_roundw
          case rel => exact ⟨k + 1, by omega, by go_num, _, _, _, _, _, _, _, _, by rw [HE]; exact J⟩
          case measure => simp [intOf]; omega
      · have hlt' : ¬ (k : Int) < n := by omega
        obtain rfl : k = n := by omega
        have hgd := tab_good (l.take k) _ good_nil
        have hbd := tab_bd l k (by omega)
        obtain ⟨T, hT⟩ : ∃ T, T = tabM ⟨[], []⟩ (l.take k) := ⟨_, rfl⟩
        rw [← hT] at J hbd hgd
        clear hT
        have CP := Lib.hid (KP.resolve_any J.out.P hgd hbd (J.out.strs_ HN.out) HNS.out h100)
        have CR : Hid (∀ u, Below wr.heap.size wr u → Calls Try.prog 14 #[tbV ma mn mc la ln lc, .slice na nn nc] u fun e w' => ∃ q, e = .returned (.tuple #[q, .int .i64 (rsE T.L ns)]) ∧ IsRs u.heap.size w' q T.L ns ∧ Below u.heap.size u w') := Lib.hid (fun u hb => refResolve_any ((J.out.belowS hb).R.mono fun g hg => ((J.out.belowS hb).GS g hg).2) hgd (HN.out.below (J.out.belowS hb).B |>.mono fun g hg => Nat.lt_of_lt_of_le hg (J.out.belowS hb).B.size) h100)
        clear hbd hgd HA HS HL
        have HI := Lib.hid (fun (B : Nat) (u : World) (q : Value) (hi : IsRs B u q T.L ns) => hi.row)
        generalize (if rsE T.L ns = 0 then rsL T.L ns else []) = R at *
        obtain ⟨E, hE⟩ : ∃ E, rsE T.L ns = E := ⟨_, rfl⟩
        rw [hE] at CP CR
        clear hE
        go_upto_region 11 with (go_at_call 13; (with_reducible refine CP.out.mono ?_); rintro e w4 ⟨q4, rfl, hi4, hb⟩; have H4 := Lib.hid (HI.out _ _ _ hi4); have B4 := Lib.hid hb; clear hi4 hb)
        have J4 := Lib.hid (J.out.belowS B4.out)
        obtain ⟨z0, z1⟩ := two_cells J4.out.Z
        have z6 := J4.out.Z.lt
        have HC := Lib.hid (CR.out _ B4.out)
        go_upto_region 12 with (go_at_call 14; (with_reducible refine HC.out.mono ?_); rintro e w5 ⟨q5, rfl, hi5, hb⟩; have H5 := Lib.hid (HI.out _ _ _ hi5); have H45 := Lib.hid (owns_below H4.out hb); have B5 := Lib.hid (B4.out.trans (hb.mono B4.out.size)); clear hi5 hb)
        clear z0 z1 z6 HC CR CP HI H4 J4
        go_upto_region 13 with (go_at_call 13; (with_reducible refine (KP.resolve_nil _ _).mono ?_); rintro e w6 ⟨q6, rfl, hb⟩; have H46 := Lib.hid (owns_below H45.out hb); have H56 := Lib.hid (owns_below H5.out hb); have B6 := Lib.hid (B5.out.trans (hb.mono B5.out.size)); clear hb)
        clear H45 H5 B5 B4
        have BW := Lib.hid (J.out.B.trans (B6.out.mono J.out.B.size))
        obtain ⟨a1, k1, rfl⟩ := owns_form H46.out
        obtain ⟨a2, k2, rfl⟩ := owns_form H56.out
        have CQ : Calls Try.prog 15 #[.slice a1 R.length k1, .slice a2 R.length k2] w6 fun e w' => e = .returned (.bool true) ∧ Below w6.heap.size w6 w' := by
          have := sameWords_any (reads_lt (Reads.of_owns H46.out)) (reads_lt (Reads.of_owns H56.out))
          rw [decide_eq_true rfl] at this
          exact this
        have HCQ := Lib.hid CQ
        clear CQ H46 H56 B6 J HN HNS HLN
        generalize R.length = N at *
        go_wp2_with (first | (go_at_call 15; (with_reducible refine HCQ.out.mono ?_); rintro e w7 ⟨rfl, hb7⟩) | (go_at_call 9; (with_reducible refine (AW.out.at _).mono ?_); rintro e w8 ⟨rfl, hb8⟩))
        go_ret
        exact ⟨rfl, (BW.out.trans (hb7.mono BW.out.size)).trans (hb8.mono (BW.out.trans (hb7.mono BW.out.size)).size)⟩
  · have hc0 : (20 : Int) < n ∨ ¬ (20 : Int) < n ∧ (100 : Int) < nn := by omega
    clear h hs hn hns hle n1 n3
    rcases hc0 with h20 | ⟨h20, h100⟩
    · go_enter Try.func3, Try.ntmps3
      go_wp2_with (go_at_call 9; (with_reducible refine (AW.out.at _).mono ?_); rintro e w8 ⟨rfl, hb8⟩)
      go_ret
      exact ⟨rfl, hb8⟩
    · go_enter Try.func3, Try.ntmps3
      go_wp2_with (go_at_call 9; (with_reducible refine (AW.out.at _).mono ?_); rintro e w8 ⟨rfl, hb8⟩)
      go_ret
      exact ⟨rfl, hb8⟩
end
end Go.Proofs.Ytajidaicojekdaa.WK
