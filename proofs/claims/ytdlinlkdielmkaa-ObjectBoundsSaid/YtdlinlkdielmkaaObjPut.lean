/-
  A module laid, as the reference lays it. Nothing here is a statement of the seed.
-/
import Derived.Test.YtdlinlkdielmkaaObjTexts
import Derived.Deep.RegionHeld3
import Derived.Deep.CutRange
import Derived.ArgAppend
import Derived.Lib.SlBytesConst
set_option linter.unusedSimpArgs false
set_option linter.unusedVariables false
namespace Go.Proofs.Ytdlinlkdielmkaa.OR
open Go.RowKit WM NR OM
set_option maxHeartbeats 8000000
set_option maxRecDepth 10000
/-- what Put tells -/
def IsPut (B : Nat) (m : Md) (w : World) (e : Ending) (w' : World) : Prop :=
  if chkM m = 0 then ∃ v, e = .returned (.tuple #[v, .int .i64 0]) ∧ w'.ownsRow B 5 1 v (putL m).length (u8s (putL m)) ∧ Below w.heap.size w w'
  else e = .returned (.tuple #[.slice none 0 0, .int .i64 (chkM m : Nat)]) ∧ Below w.heap.size w w'
theorem conv_bytes (W : World) : (convert 30 30 (.slice (some ⟨W.heap.size, 0, none⟩) 4 4)).run Try.prog (W.alloc (.cells #[.int .u8 66, .int .u8 85, .int .u8 68, .int .u8 49] 5)) = .ok (.slice (some ⟨W.heap.size, 0, none⟩) 4 4) (W.alloc (.cells #[.int .u8 66, .int .u8 85, .int .u8 68, .int .u8 49] 5 (4, 5))) := Lib.run_convert_bytes_const W 30 5 #[.int .u8 66, .int .u8 85, .int .u8 68, .int .u8 49] 4 4 Try.underlying30 Try.underlying5
theorem bud_cells (W : World) : ∀ j u, (u8s bud1)[j]? = some u → (W.alloc (.cells #[.int .u8 66, .int .u8 85, .int .u8 68, .int .u8 49] 5 (4, 5))).cell? ((⟨W.heap.size, 0, none⟩ : Addr).add j) = some u := by
  intro j u hj
  have e : (W.alloc (.cells #[.int .u8 66, .int .u8 85, .int .u8 68, .int .u8 49] 5 (4, 5))).heap[W.heap.size]? = some (.cells #[.int .u8 66, .int .u8 85, .int .u8 68, .int .u8 49] 5 (4, 5)) := heap_alloc_new W _
  have h4 : j < 4 := by
    rcases Nat.lt_or_ge j 4 with h | h
    · exact h
    · rw [List.getElem?_eq_none (by simpa [u8s, bud1] using h)] at hj
      cases hj
  have ea : ((⟨W.heap.size, 0, none⟩ : Addr).add j) = ⟨W.heap.size, j, none⟩ := by
    unfold Addr.add
    split
    · subst_vars; rfl
    · simp
  rw [ea]
  unfold World.cell?
  simp only [e]
  rcases (show j = 0 ∨ j = 1 ∨ j = 2 ∨ j = 3 by omega) with rfl | rfl | rfl | rfl <;> exact hj
/-- what a region of Put's reads -/
abbrev MC (b : Nat) (x : ByteArray) (ea : Option Addr) (en ec : Nat) (ia : Option Addr) (im ic : Nat) (ca : Option Addr) (cn cc : Nat) (da : Option Addr) (dn dc : Nat) (ra : Option Addr) (rn rc : Nat) (w : World) : Prop := w.cell? ⟨b, 0, none⟩ = some (.string x) ∧ w.cell? ⟨b, 1, none⟩ = some (.slice ea en ec) ∧ w.cell? ⟨b, 2, none⟩ = some (.slice ia im ic) ∧ w.cell? ⟨b, 3, none⟩ = some (.slice ca cn cc) ∧ w.cell? ⟨b, 4, none⟩ = some (.slice da dn dc) ∧ w.cell? ⟨b, 5, none⟩ = some (.slice ra rn rc)
/-- bytes gathered so far, the module's box as it lay -/
structure PJ (W0 : World) (v : Value) (X : List UInt8) (u : World) : Prop where
  own : u.ownsRow W0.heap.size 5 1 v X.length (u8s X)
  B : Below W0.heap.size W0 u
theorem PJ.drew {W0 u : World} {v : Value} {X : List UInt8} (h : PJ W0 v X u) : PJ W0 v X u.drew := ⟨owns_below h.own (Below.refl _ _).drew, h.B.drew⟩
theorem PJ.belowS {W0 u u' : World} {v : Value} {X : List UInt8} (h : PJ W0 v X u) (hb : Below u.heap.size u u') : PJ W0 v X u' := ⟨owns_below h.own hb, h.B.trans (hb.mono h.B.size)⟩
/-- bytes appended to those gathered, as one operation -/
theorem wo_app {W0 : World} {o : Oper} {a : Act} {w : World} {K : Act → World → Prop} {Q : Exit → Act → World → Prop} {s x : Operand} {d : Tmp} (ho : o.op = .call { callee := .builtin .append, args := #[s, x], argTypes := #[30, 30] }) (hd : o.dst = some d) {v : Value} {xs ys : List UInt8} (hs : a.eval s = v) (j : PJ W0 v xs w) {g cap : Nat} (hx : a.eval x = .slice (some ⟨g, 0, none⟩) ys.length cap) (hc : ∀ j u, (u8s ys)[j]? = some u → w.cell? ((⟨g, 0, none⟩ : Addr).add j) = some u) (hl : xs.length + ys.length ≤ 1000000) (h : ∀ v' w', PJ W0 v' (xs ++ ys) w' → K (a.put (some d) v') w') : o.wp Try.prog a w K Q := by
  obtain ⟨i0, hi, hz0, hz1, hz2⟩ := info_parts infoByte
  obtain ⟨v', w', hr, h2, h3, _⟩ := run_append_own (P := Try.prog) w W0.heap.size 30 o.type 5 i0 (.int .u8 0) 1 1 Try.underlying30 hi hz0 hz1 hz2 rfl (by decide) v xs.length (u8s xs) j.own ⟨g, 0, none⟩ ys.length cap (u8s ys) (by rw [u8s_len]; omega) hc (u8s_one _) (by unfold maxLen; omega) (by omega) j.B.size
  have hb : Below W0.heap.size W0 w' := j.B.grown h3 j.B.size (fun g hg => (j.own.lt g hg).1)
  unfold Oper.wp execOp
  simp only [ho, resolve, invoke, builtin, Sem.run_bind, Sem.run_pure, Result.andThen_ok, List.map_toArray, List.map_cons, List.map_nil, hs, hx, hr]
  rw [show o.upon Try.prog a K Q (.ok (.value v') w') = K (a.put o.dst v') w' from rfl, hd]
  exact h v' w' ⟨by rw [List.length_append, u8s_append]; exact h2, hb⟩
theorem wo_appX {W0 : World} {o : Oper} {a : Act} {w : World} {K : Act → World → Prop} {Q : Exit → Act → World → Prop} {s x : Operand} {d : Tmp} (ho : o.op = .call { callee := .builtin .append, args := #[s, x], argTypes := #[30, 30] }) (hd : o.dst = some d) {v : Value} {xs ys : List UInt8} (hs : a.eval s = v) (j : PJ W0 v xs w) {b : Nat} {ty : TypeId} {cs : Array Value} (X : Whole w b ty cs) (hne : ty ≠ 5) {g cap : Nat} (hx : a.eval x = .slice (some ⟨g, 0, none⟩) ys.length cap) (hc : ∀ j u, (u8s ys)[j]? = some u → w.cell? ((⟨g, 0, none⟩ : Addr).add j) = some u) (hl : xs.length + ys.length ≤ 1000000) (h : ∀ v' w', PJ W0 v' (xs ++ ys) w' → Whole w' b ty cs → K (a.put (some d) v') w') : o.wp Try.prog a w K Q := by
  obtain ⟨i0, hi, hz0, hz1, hz2⟩ := info_parts infoByte
  obtain ⟨v', w', hr, h2, h3, _⟩ := run_append_own (P := Try.prog) w W0.heap.size 30 o.type 5 i0 (.int .u8 0) 1 1 Try.underlying30 hi hz0 hz1 hz2 rfl (by decide) v xs.length (u8s xs) j.own ⟨g, 0, none⟩ ys.length cap (u8s ys) (by rw [u8s_len]; omega) hc (u8s_one _) (by unfold maxLen; omega) (by omega) j.B.size
  have hb : Below W0.heap.size W0 w' := j.B.grown h3 j.B.size (fun g hg => (j.own.lt g hg).1)
  have hX : Whole w' b ty cs := by
    refine X.as (h3.block b X.lt fun e => ?_)
    rcases j.own.2 with ⟨rfl, _⟩ | ⟨g', cap', cur, rfl, _, hg', _⟩
    · cases e
    · have e2 : b = g' := Option.some.inj e
      subst e2
      have e1 : w.heap[b]? = some (.cells cs ty (0, 0)) := X
      rw [hg'] at e1
      simp only [Option.some.injEq, Obj.cells.injEq] at e1
      exact hne e1.2.1.symm
  unfold Oper.wp execOp
  simp only [ho, resolve, invoke, builtin, Sem.run_bind, Sem.run_pure, Result.andThen_ok, List.map_toArray, List.map_cons, List.map_nil, hs, hx, hr]
  rw [show o.upon Try.prog a K Q (.ok (.value v') w') = K (a.put o.dst v') w' from rfl, hd]
  exact h v' w' ⟨by rw [List.length_append, u8s_append]; exact h2, hb⟩ hX
theorem wl_app {W0 : World} {ops : Array Oper} {rest : List Oper} {o : Oper} {a : Act} {w : World} {Q : Exit → Act → World → Prop} {s x : Operand} {d : Tmp} (hgd : o.guard = none) (ho : o.op = .call { callee := .builtin .append, args := #[s, x], argTypes := #[30, 30] }) (hd : o.dst = some d) {v : Value} {xs ys : List UInt8} (hs : a.eval s = v) (j : PJ W0 v xs w) {g cap : Nat} (hx : a.eval x = .slice (some ⟨g, 0, none⟩) ys.length cap) (hc : ∀ j u, (u8s ys)[j]? = some u → w.cell? ((⟨g, 0, none⟩ : Addr).add j) = some u) (hl : xs.length + ys.length ≤ 1000000) (h : ∀ v' w', PJ W0 v' (xs ++ ys) w' → wpList Try.prog ops Q rest (a.put (some d) v') w') : wpList Try.prog ops Q (o :: rest) a w :=
  wpList_plain hgd fun K hK => wo_app ho hd hs j hx hc hl fun v' w' j' => by rw [← hd]; exact hK _ _ (by rw [hd]; exact h v' w' j')
theorem relsB_take {l : List Rl} {k : Nat} (hk : k < l.length) : relsB (l.take (k + 1)) = relsB (l.take k) ++ relL (l.getD k ⟨0, 0, 0⟩) := by
  rw [List.take_add_one, relsB_append]
  simp [hk, relsB]
theorem relL_len {r : Rl} (h : r.kind < 256 ∧ r.at_ < 65536 ∧ r.wh < 65536) : (relL r).length ≤ 11 := by
  unfold relL
  have h1 := varL_five r.at_ (by omega)
  have h2 := varL_five r.wh (by omega)
  simp only [List.length_cons, List.length_append]
  omega
theorem relsB_len : ∀ (l : List Rl), (∀ r ∈ l, r.kind < 256 ∧ r.at_ < 65536 ∧ r.wh < 65536) → (relsB l).length ≤ 11 * l.length
  | [], _ => by simp [relsB]
  | r :: l, h => by
    have h1 := relL_len (h r (by simp))
    have h2 := relsB_len l (fun x hx => h x (by simp [hx]))
    simp only [relsB, List.length_append, List.length_cons]
    omega
theorem rel_cells {w : World} {b : Nat} {x y z : Value} (h : Whole w b 48 #[x, y, z]) : w.cell? ⟨b, 0, none⟩ = some x ∧ w.cell? ⟨b, 1, none⟩ = some y ∧ w.cell? ⟨b, 2, none⟩ = some z := ⟨h.cell 0, h.cell 1, h.cell 2⟩
theorem byte_one {k : Nat} (h : k < 256) : u8s [UInt8.ofNat k] = [.int .u8 (k : Int)] := by
  unfold u8s
  simp [Nat.mod_eq_of_lt h]
theorem mc_of {W0 u : World} {b : Nat} {x : ByteArray} {ea : Option Addr} {en ec : Nat} {ia : Option Addr} {im ic : Nat} {ca : Option Addr} {cn cc : Nat} {da : Option Addr} {dn dc : Nat} {ra : Option Addr} {rn rc : Nat} (h : Whole W0 b 26 (mCs x ea en ec ia im ic ca cn cc da dn dc ra rn rc)) (hb : Below W0.heap.size W0 u) : MC b x ea en ec ia im ic ca cn cc da dn dc ra rn rc u := mod_cells (h.belowS hb)
theorem textsL_ne (l : List (List UInt8)) : textsL l ≠ [] := fun h => varL_ne _ (List.append_eq_nil_iff.1 h).1
theorem wordsL_ne (l : List Nat) : wordsL l ≠ [] := fun h => varL_ne _ (List.append_eq_nil_iff.1 h).1
theorem textsL_len {l : List (List UInt8)} (h : ∀ s ∈ l, s.length ≤ 96) (hn : l.length ≤ 16) : (textsL l).length ≤ 1621 := by
  unfold textsL
  have h1 := varL_five (l.length % 4294967296) (by omega)
  have h2 := textsB_len l h
  rw [List.length_append]
  omega
theorem wordsL_len {l : List Nat} (hn : l.length ≤ 512) : (wordsL l).length ≤ 2053 := by
  unfold wordsL
  have h1 := varL_five (l.length % 4294967296) (by omega)
  rw [List.length_append, manyL_length]
  omega
section
variable {w : World} {ea : Option Addr} {en ec : Nat} {ia : Option Addr} {im ic : Nat} {ca : Option Addr} {cn cc : Nat} {da : Option Addr} {dn dc : Nat} {ra : Option Addr} {rn rc : Nat} {m : Md}
theorem put_no (h : RdM (· < w.heap.size) w ea en ec ia im ic ca cn cc da dn dc ra rn rc m) (hc : chkM m ≠ 0) :
    Calls Try.prog 13 #[mV (bs m.name) ea en ec ia im ic ca cn cc da dn dc ra rn rc] w (IsPut w.heap.size m w) := by
  have hb0 := below_new w (.cells (mCs (bs m.name) ea en ec ia im ic ca cn cc da dn dc ra rn rc) 26)
  have C := Lib.hid (check_any (h.go hb0 hb0.size))
  have HB0 := Lib.hid hb0
  have e : IsPut w.heap.size m w = fun e w' => e = .returned (.tuple #[.slice none 0 0, .int .i64 (chkM m : Nat)]) ∧ Below w.heap.size w w' := by
    funext e w'
    unfold IsPut
    rw [if_neg hc]
  rw [e]
  have hq : ((chkM m : Int) != 0) = true := by simpa using hc
  clear e hc hb0 h
  generalize ((chkM m : Nat) : Int) = K at *
  generalize bs m.name = x at *
  go_enter Try.func13, Try.ntmps13
  go_wp2_with (go_at_call 15; (with_reducible refine C.out.mono ?_); rintro e w1 ⟨rfl, hb⟩; have Z := Lib.hid (HB0.out.trans (hb.mono HB0.out.size)); clear hb)
  exact bodyPost_ret (v := .tuple #[.slice none 0 0, .int .i64 K]) (by simp [results, Try.results13, go_sem]) rfl ⟨rfl, Z.out⟩
theorem put_yes (h : RdM (· < w.heap.size) w ea en ec ia im ic ca cn cc da dn dc ra rn rc m) (hc : chkM m = 0) (hf : FineM m) :
    Calls Try.prog 13 #[mV (bs m.name) ea en ec ia im ic ca cn cc da dn dc ra rn rc] w (IsPut w.heap.size m w) := by
  obtain ⟨i0, hi, hz0, hz1, hz2⟩ := info_parts infoByte
  obtain ⟨⟨k1, k2, k3, k4, k5⟩, k6, k7, k8, k9⟩ := chk_ok hc
  obtain ⟨l1, l2, l3, l4, l5⟩ := h.lens
  have hb0 := below_new w (.cells (mCs (bs m.name) ea en ec ia im ic ca cn cc da dn dc ra rn rc) 26)
  have X1 := Lib.hid (Whole.new w 26 (mCs (bs m.name) ea en ec ia im ic ca cn cc da dn dc ra rn rc))
  have C := Lib.hid (check_any (h.go hb0 hb0.size))
  rw [hc] at C
  have HB0 := Lib.hid hb0
  have X0 := Lib.hid (Whole.new w 26 (mCs (bs m.name) ea en ec ia im ic ca cn cc da dn dc ra rn rc))
  have CT := Lib.hid (fun (u : World) => refText_any (bs m.name) u (by rw [bs_size]; omega))
  rw [bs_list] at CT
  have te := textsL_len k7 (by omega)
  have ti := textsL_len k8 (by omega)
  have tc := wordsL_len k3
  have td := wordsL_len (l := m.data) (by omega)
  have CE := Lib.hid (fun (u : World) (hb : Below w.heap.size w u) => refTexts_any ((h.ex.below hb).mono fun g hg => Nat.lt_of_lt_of_le hg hb.size) (by omega) k7)
  have CI := Lib.hid (fun (u : World) (hb : Below w.heap.size w u) => refTexts_any ((h.im.below hb).mono fun g hg => Nat.lt_of_lt_of_le hg hb.size) (by omega) k8)
  have CC := Lib.hid (fun (u : World) (hb : Below w.heap.size w u) => refWords_any m.code _ u ((h.cd.below hb).mono fun g hg => Nat.lt_of_lt_of_le hg hb.size) (by omega) hf.code)
  have CD := Lib.hid (fun (u : World) (hb : Below w.heap.size w u) => refWords_any m.data _ u ((h.dt.below hb).mono fun g hg => Nat.lt_of_lt_of_le hg hb.size) (by omega) hf.data)
  have CV := Lib.hid (fun (u : World) => refVar_int (rn : Int) u (by omega))
  have HR := Lib.hid (And.intro h.rl (And.intro l5 hf.rels))
  have hrn : (rn : Int) ≤ 256 := by omega
  have hrc : (rn : Int) ≤ rc := by have := h.rl.len; omega
  have hb4 := fun u : World => Lib.hid (bud_cells u)
  have hne := textL_ne m.name
  have hlen := textL_len k6
  have e : IsPut w.heap.size m w = fun e w' => ∃ v, e = .returned (.tuple #[v, .int .i64 0]) ∧ w'.ownsRow w.heap.size 5 1 v (putL m).length (u8s (putL m)) ∧ Below w.heap.size w w' := by
    funext e w'
    unfold IsPut
    rw [if_pos hc]
  rw [e]
  clear e hc hf h hb0 k7 k8 k9 l1 l2 l3 l4 l5
  generalize bs m.name = x at *
  go_enter Try.func13, Try.ntmps13
  go_upto_region 4 with (go_at_call 15; (with_reducible refine C.out.mono ?_); rintro e w1 ⟨rfl, hb⟩; have Z := Lib.hid (HB0.out.trans (hb.mono HB0.out.size)); have X2 := Lib.hid (X1.out.belowS hb); have Y1 := Lib.hid hb; clear hb)
  have O4 := hb4 w1
  have X3 := Lib.hid (X2.out.alloc (.cells #[.int .u8 66, .int .u8 85, .int .u8 68, .int .u8 49] 5 (4, 5)))
  have Z3 := Lib.hid (Z.out.alloc Z.out.size (.cells #[.int .u8 66, .int .u8 85, .int .u8 68, .int .u8 49] 5 (4, 5)))
  obtain ⟨c0, c1, c2, c3, c4, c5⟩ := mod_cells X3.out
  have q0 := X2.out.lt
  have hcv := conv_bytes w1
  have Y3 := Lib.hid (Y1.out.alloc Y1.out.size (.cells #[.int .u8 66, .int .u8 85, .int .u8 68, .int .u8 49] 5 (4, 5)))
  clear X1 X2 C hb4
  have hpos : 0 < (textL m.name).length := List.length_pos_iff.2 hne
  go_upto_region 5 with (first | (go_at_call 27; (with_reducible refine (CT.out _).mono ?_); rintro e w2 ⟨v2, rfl, hown2, hb⟩; obtain ⟨g2, cap2, rfl, hcells⟩ := owns_give hown2 hne; have O5 := Lib.hid (fun j u hj => (hb.cell (p := (⟨w1.heap.size, 0, none⟩ : Addr).add j) (by simp [Addr.add]; split <;> simp)).trans (O4.out j u hj)); have Y4 := Lib.hid (Y3.out.trans (hb.mono (by have := Y1.out.size; simp; omega))); have X4 := Lib.hid (X3.out.belowS hb); clear hb c0 c1 c2 c3 c4 c5) | (at_builtin; refine wpList_append_grows _ rfl _ _ 30 rfl 5 i0 (.int .u8 0) 1 1 Try.underlying30 hi hz0 hz1 hz2 rfl (by decide) (some ⟨w1.heap.size, 0, none⟩) 4 4 (u8s bud1) rfl (fun h => by cases h) rfl (fun b hb j u hj => by cases hb; exact O5.out j u hj) ⟨g2, 0, none⟩ (textL m.name).length cap2 (u8s (textL m.name)) rfl (by rw [u8s_len]; omega) hcells (u8s_one _) (by omega) (by unfold maxLen; omega) (by omega) ?_; intro v5 w3 hown3 hgrow))
  have J3 : PJ (w.alloc (.cells (mCs x ea en ec ia im ic ca cn cc da dn dc ra rn rc) 26)) v5 (bud1 ++ textL m.name) w3 := ⟨by have := owns_base hown3 (B' := (w.alloc (.cells (mCs x ea en ec ia im ic ca cn cc da dn dc ra rn rc) 26)).heap.size) Y4.out.size; rw [List.length_append, u8s_append]; exact this, Y4.out.grown hgrow Y4.out.size (fun g hg => by cases hg)⟩
  have hX3 : (bud1 ++ textL m.name).length ≤ 105 := by rw [List.length_append]; show 4 + _ ≤ _; omega
  clear hown3 hgrow hown2 hcells O4 O5 X3 X4 Z Z3 Y1 Y3 Y4 hcv q0 hne hpos hlen CT
  have hW0s : w.heap.size ≤ (w.alloc (.cells (mCs x ea en ec ia im ic ca cn cc da dn dc ra rn rc) 26)).heap.size := HB0.out.size
  have HBW := Lib.hid (fun (u : World) (h : Below (w.alloc (.cells (mCs x ea en ec ia im ic ca cn cc da dn dc ra rn rc) 26)).heap.size (w.alloc (.cells (mCs x ea en ec ia im ic ca cn cc da dn dc ra rn rc) 26)) u) => HB0.out.trans (h.mono HB0.out.size))
  generalize w.alloc (.cells (mCs x ea en ec ia im ic ca cn cc da dn dc ra rn rc) 26) = W0 at *
  clear HB0
  have J5' := Lib.hid J3.drew
  have SX : MC w.heap.size x ea en ec ia im ic ca cn cc da dn dc ra rn rc w3.drew := mc_of X0.out J5'.out.B
  clear J3
  refine wp_region_held_drew (S := fun u => MC w.heap.size x ea en ec ia im ic ca cn cc da dn dc ra rn rc u) (by kernel_rfl) SX (fun hHeld => ?_)
  refine wpAnyH_take (i := 0) (v := ?vv1) rfl (by kernel_rfl) (by kernel_rfl) (by kernel_rfl) (fun _ _ _ h => h) (Or.inl ⟨by rfl, ?hy1⟩) (by assumption) ?rest1
  case hy1 =>
    intro u hSu
    obtain ⟨s0, s1, s2, s3, s4, s5⟩ := hSu
    go_simp
    try with_reducible rfl
  try simp only [Act.put, List.getElem_toArray, List.getElem_cons_succ, List.getElem_cons_zero, List.setIfInBounds_toArray, List.set_cons_zero, List.set_cons_succ]
  refine wpAnyH_take (i := 1) (v := ?vv2) rfl (by kernel_rfl) (by kernel_rfl) (by kernel_rfl) (fun _ _ _ h => h) (Or.inl ⟨by rfl, ?hy2⟩) (by assumption) ?rest2
  case hy2 =>
    intro u hSu
    obtain ⟨s0, s1, s2, s3, s4, s5⟩ := hSu
    go_simp
    try with_reducible rfl
  try simp only [Act.put, List.getElem_toArray, List.getElem_cons_succ, List.getElem_cons_zero, List.setIfInBounds_toArray, List.set_cons_zero, List.set_cons_succ]
  refine wpAnyH_take (i := 2) (v := ?vv3) rfl (by kernel_rfl) (by kernel_rfl) (by kernel_rfl) (fun _ _ _ h => h) (Or.inl ⟨by rfl, ?hy3⟩) (by assumption) ?rest3
  case hy3 =>
    intro u hSu
    obtain ⟨s0, s1, s2, s3, s4, s5⟩ := hSu
    go_simp
    try with_reducible rfl
  try simp only [Act.put, List.getElem_toArray, List.getElem_cons_succ, List.getElem_cons_zero, List.setIfInBounds_toArray, List.set_cons_zero, List.set_cons_succ]
  refine wpAnyH_take (i := 5) (v := ?vv4) rfl (by kernel_rfl) (by kernel_rfl) (by kernel_rfl) (fun _ _ _ h => h) (Or.inl ⟨by rfl, ?hy4⟩) (by assumption) ?rest4
  case hy4 =>
    intro u hSu
    obtain ⟨s0, s1, s2, s3, s4, s5⟩ := hSu
    go_simp
    try with_reducible rfl
  try simp only [Act.put, List.getElem_toArray, List.getElem_cons_succ, List.getElem_cons_zero, List.setIfInBounds_toArray, List.set_cons_zero, List.set_cons_succ]
  refine wpAnyH_take (i := 6) (v := ?vv5) rfl (by kernel_rfl) (by kernel_rfl) (by kernel_rfl) (fun _ _ _ h => h) (Or.inl ⟨by rfl, ?hy5⟩) (by assumption) ?rest5
  case hy5 =>
    intro u hSu
    obtain ⟨s0, s1, s2, s3, s4, s5⟩ := hSu
    go_simp
    try with_reducible rfl
  try simp only [Act.put, List.getElem_toArray, List.getElem_cons_succ, List.getElem_cons_zero, List.setIfInBounds_toArray, List.set_cons_zero, List.set_cons_succ]
  refine wpAnyH_ready (rs := [3]) (by kernel_rfl) (by simp) ?_
  refine AllReadyH.cons rfl (fun K hK => ?_) AllReadyH.nil
  (go_simp; go_at_call 28; (with_reducible refine (CE.out _ (HBW.out _ J5'.out.B)).mono ?_); rintro e u51 ⟨y51, rfl, own, hb⟩; obtain ⟨g51, p51, rfl, ce⟩ := owns_give own (textsL_ne _); have K51 := J5'.out.belowS hb; clear own hb)
  refine hK.out _ _ ?hS6 (fun hHeld => ?rst6)
  case hS6 => exact mc_of X0.out K51.B
  clear hK K
  try simp only [Act.put, List.getElem_toArray, List.getElem_cons_succ, List.getElem_cons_zero, List.setIfInBounds_toArray, List.set_cons_zero, List.set_cons_succ]
  refine wpAnyH_ready (rs := [4]) (by kernel_rfl) (by simp) ?_
  refine AllReadyH.cons rfl (fun K hK => ?_) AllReadyH.nil
  refine wo_app rfl rfl rfl K51 rfl ce (by omega) (fun y52 u52 K52 => ?_)
  refine hK.out _ _ ?hS7 (fun hHeld => ?rst7)
  case hS7 => exact mc_of X0.out K52.B
  clear hK K
  try simp only [Act.put, List.getElem_toArray, List.getElem_cons_succ, List.getElem_cons_zero, List.setIfInBounds_toArray, List.set_cons_zero, List.set_cons_succ]
  have hL5 : ((bud1 ++ textL m.name) ++ textsL m.exps).length ≤ 1800 := by rw [List.length_append]; omega
  clear ce K51
  refine wpAnyH_ready (rs := [7]) (by kernel_rfl) (by simp) ?_
  refine AllReadyH.cons rfl (fun K hK => ?_) AllReadyH.nil
  (go_simp; go_at_call 28; (with_reducible refine (CI.out _ (HBW.out _ K52.B)).mono ?_); rintro e u53 ⟨y53, rfl, own, hb⟩; obtain ⟨g53, p53, rfl, ce⟩ := owns_give own (textsL_ne _); have K53 := K52.belowS hb; clear own hb)
  refine hK.out _ _ ?hS8 (fun hHeld => ?rst8)
  case hS8 => exact mc_of X0.out K53.B
  clear hK K
  try simp only [Act.put, List.getElem_toArray, List.getElem_cons_succ, List.getElem_cons_zero, List.setIfInBounds_toArray, List.set_cons_zero, List.set_cons_succ]
  refine wpAnyH_ready (rs := [8]) (by kernel_rfl) (by simp) ?_
  refine AllReadyH.cons rfl (fun K hK => ?_) AllReadyH.nil
  refine wo_app rfl rfl rfl K53 rfl ce (by omega) (fun y54 u54 K54 => ?_)
  refine hK.out _ _ ?hS9 (fun hHeld => ?rst9)
  case hS9 => exact mc_of X0.out K54.B
  clear hK K
  try simp only [Act.put, List.getElem_toArray, List.getElem_cons_succ, List.getElem_cons_zero, List.setIfInBounds_toArray, List.set_cons_zero, List.set_cons_succ]
  refine wpAnyH_take (i := 9) (v := ?vv10) rfl (by kernel_rfl) (by kernel_rfl) (by kernel_rfl) (fun _ _ _ h => h) (Or.inl ⟨by rfl, ?hy10⟩) (by assumption) ?rest10
  case hy10 =>
    intro u hSu
    obtain ⟨s0, s1, s2, s3, s4, s5⟩ := hSu
    go_simp
    try with_reducible rfl
  try simp only [Act.put, List.getElem_toArray, List.getElem_cons_succ, List.getElem_cons_zero, List.setIfInBounds_toArray, List.set_cons_zero, List.set_cons_succ]
  have hM5 : ((bud1 ++ textL m.name) ++ textsL m.exps ++ textsL m.imps).length ≤ 3500 := by rw [List.length_append]; omega
  refine wpAnyH_done (by kernel_rfl) ?_ _
  clear ce K53 K52 hHeld SX
  go_upto_region 6 with fail
  have J6 := K54
  clear K54
  obtain ⟨X6, hX6⟩ : ∃ X, X = bud1 ++ textL m.name ++ textsL m.exps ++ textsL m.imps := ⟨_, rfl⟩
  rw [← hX6] at J6 hM5
  have HX6 := Lib.hid hX6
  clear hX6 hL5 hX3
  have J6' := Lib.hid J6.drew
  have SX : MC w.heap.size x ea en ec ia im ic ca cn cc da dn dc ra rn rc u54.drew := mc_of X0.out J6'.out.B
  clear J6
  refine wp_region_held_drew (S := fun u => MC w.heap.size x ea en ec ia im ic ca cn cc da dn dc ra rn rc u) (by kernel_rfl) SX (fun hHeld => ?_)
  refine wpAnyH_take (i := 0) (v := ?vv101) rfl (by kernel_rfl) (by kernel_rfl) (by kernel_rfl) (fun _ _ _ h => h) (Or.inl ⟨by rfl, ?hy101⟩) (by assumption) ?rest101
  case hy101 =>
    intro u hSu
    obtain ⟨s0, s1, s2, s3, s4, s5⟩ := hSu
    go_simp
    try with_reducible rfl
  try simp only [Act.put, List.getElem_toArray, List.getElem_cons_succ, List.getElem_cons_zero, List.setIfInBounds_toArray, List.set_cons_zero, List.set_cons_succ]
  refine wpAnyH_take (i := 1) (v := ?vv102) rfl (by kernel_rfl) (by kernel_rfl) (by kernel_rfl) (fun _ _ _ h => h) (Or.inl ⟨by rfl, ?hy102⟩) (by assumption) ?rest102
  case hy102 =>
    intro u hSu
    obtain ⟨s0, s1, s2, s3, s4, s5⟩ := hSu
    go_simp
    try with_reducible rfl
  try simp only [Act.put, List.getElem_toArray, List.getElem_cons_succ, List.getElem_cons_zero, List.setIfInBounds_toArray, List.set_cons_zero, List.set_cons_succ]
  refine wpAnyH_take (i := 2) (v := ?vv103) rfl (by kernel_rfl) (by kernel_rfl) (by kernel_rfl) (fun _ _ _ h => h) (Or.inl ⟨by rfl, ?hy103⟩) (by assumption) ?rest103
  case hy103 =>
    intro u hSu
    obtain ⟨s0, s1, s2, s3, s4, s5⟩ := hSu
    go_simp
    try with_reducible rfl
  try simp only [Act.put, List.getElem_toArray, List.getElem_cons_succ, List.getElem_cons_zero, List.setIfInBounds_toArray, List.set_cons_zero, List.set_cons_succ]
  refine wpAnyH_take (i := 5) (v := ?vv104) rfl (by kernel_rfl) (by kernel_rfl) (by kernel_rfl) (fun _ _ _ h => h) (Or.inl ⟨by rfl, ?hy104⟩) (by assumption) ?rest104
  case hy104 =>
    intro u hSu
    obtain ⟨s0, s1, s2, s3, s4, s5⟩ := hSu
    go_simp
    try with_reducible rfl
  try simp only [Act.put, List.getElem_toArray, List.getElem_cons_succ, List.getElem_cons_zero, List.setIfInBounds_toArray, List.set_cons_zero, List.set_cons_succ]
  refine wpAnyH_take (i := 6) (v := ?vv105) rfl (by kernel_rfl) (by kernel_rfl) (by kernel_rfl) (fun _ _ _ h => h) (Or.inl ⟨by rfl, ?hy105⟩) (by assumption) ?rest105
  case hy105 =>
    intro u hSu
    obtain ⟨s0, s1, s2, s3, s4, s5⟩ := hSu
    go_simp
    try with_reducible rfl
  try simp only [Act.put, List.getElem_toArray, List.getElem_cons_succ, List.getElem_cons_zero, List.setIfInBounds_toArray, List.set_cons_zero, List.set_cons_succ]
  refine wpAnyH_ready (rs := [3]) (by kernel_rfl) (by simp) ?_
  refine AllReadyH.cons rfl (fun K hK => ?_) AllReadyH.nil
  (go_simp; go_at_call 29; (with_reducible refine (CC.out _ (HBW.out _ J6'.out.B)).mono ?_); rintro e u61 ⟨y61, rfl, own, hb⟩; obtain ⟨g61, p61, rfl, ce⟩ := owns_give own (wordsL_ne _); have K61 := J6'.out.belowS hb; clear own hb)
  refine hK.out _ _ ?hS106 (fun hHeld => ?rst106)
  case hS106 => exact mc_of X0.out K61.B
  clear hK K
  try simp only [Act.put, List.getElem_toArray, List.getElem_cons_succ, List.getElem_cons_zero, List.setIfInBounds_toArray, List.set_cons_zero, List.set_cons_succ]
  refine wpAnyH_ready (rs := [4]) (by kernel_rfl) (by simp) ?_
  refine AllReadyH.cons rfl (fun K hK => ?_) AllReadyH.nil
  refine wo_app rfl rfl rfl K61 rfl ce (by omega) (fun y62 u62 K62 => ?_)
  refine hK.out _ _ ?hS107 (fun hHeld => ?rst107)
  case hS107 => exact mc_of X0.out K62.B
  clear hK K
  try simp only [Act.put, List.getElem_toArray, List.getElem_cons_succ, List.getElem_cons_zero, List.setIfInBounds_toArray, List.set_cons_zero, List.set_cons_succ]
  have hL6 : (X6 ++ wordsL m.code).length ≤ 6000 := by rw [List.length_append]; omega
  clear ce K61
  refine wpAnyH_ready (rs := [7]) (by kernel_rfl) (by simp) ?_
  refine AllReadyH.cons rfl (fun K hK => ?_) AllReadyH.nil
  (go_simp; go_at_call 29; (with_reducible refine (CD.out _ (HBW.out _ K62.B)).mono ?_); rintro e u63 ⟨y63, rfl, own, hb⟩; obtain ⟨g63, p63, rfl, ce⟩ := owns_give own (wordsL_ne _); have K63 := K62.belowS hb; clear own hb)
  refine hK.out _ _ ?hS108 (fun hHeld => ?rst108)
  case hS108 => exact mc_of X0.out K63.B
  clear hK K
  try simp only [Act.put, List.getElem_toArray, List.getElem_cons_succ, List.getElem_cons_zero, List.setIfInBounds_toArray, List.set_cons_zero, List.set_cons_succ]
  refine wpAnyH_ready (rs := [8]) (by kernel_rfl) (by simp) ?_
  refine AllReadyH.cons rfl (fun K hK => ?_) AllReadyH.nil
  refine wo_app rfl rfl rfl K63 rfl ce (by omega) (fun y64 u64 K64 => ?_)
  refine hK.out _ _ ?hS109 (fun hHeld => ?rst109)
  case hS109 => exact mc_of X0.out K64.B
  clear hK K
  try simp only [Act.put, List.getElem_toArray, List.getElem_cons_succ, List.getElem_cons_zero, List.setIfInBounds_toArray, List.set_cons_zero, List.set_cons_succ]
  refine wpAnyH_take (i := 9) (v := ?vv110) rfl (by kernel_rfl) (by kernel_rfl) (by kernel_rfl) (fun _ _ _ h => h) (Or.inl ⟨by rfl, ?hy110⟩) (by assumption) ?rest110
  case hy110 =>
    intro u hSu
    obtain ⟨s0, s1, s2, s3, s4, s5⟩ := hSu
    go_simp
    try with_reducible rfl
  try simp only [Act.put, List.getElem_toArray, List.getElem_cons_succ, List.getElem_cons_zero, List.setIfInBounds_toArray, List.set_cons_zero, List.set_cons_succ]
  have hM6 : (X6 ++ wordsL m.code ++ wordsL m.data).length ≤ 9000 := by rw [List.length_append]; omega
  refine wpAnyH_done (by kernel_rfl) ?_ _
  clear ce K63 K62 hHeld SX
  go_upto_region 7 with fail
  have J7 := K64
  clear K64 hL6
  obtain ⟨X7, hX7⟩ : ∃ X, X = X6 ++ wordsL m.code ++ wordsL m.data := ⟨_, rfl⟩
  rw [← hX7] at J7 hM6
  have HX7 := Lib.hid hX7
  clear hX7
  have J7h := Lib.hid J7
  obtain ⟨c0, c1, c2, c3, c4, c5⟩ := mc_of X0.out J7.B
  have v5l := varL_five rn (by omega)
  have vne := varL_ne rn
  have e0 : Hid ((rn : Int).toNat = rn) := by show _ = _; omega
  rw [e0.out] at CV
  clear J7
  go_upto_region 8 with (first | (go_at_call 30; (with_reducible refine (CV.out _).mono ?_); rintro e u71 ⟨y71, rfl, own, hb⟩; obtain ⟨g71, p71, rfl, ce⟩ := owns_give own vne; have K71 := J7h.out.belowS hb; clear own hb c0 c1 c2 c3 c4 c5) | (at_builtin; refine wl_app rfl rfl rfl rfl K71 rfl ce (by omega) (fun y72 u72 K72 => ?_)))
  have hM7 : (X7 ++ varL rn).length ≤ 9010 := by rw [List.length_append]; omega
  obtain ⟨X8, hX8⟩ : ∃ X, X = X7 ++ varL rn := ⟨_, rfl⟩
  rw [← hX8] at K72 hM7
  have HX8 := Lib.hid hX8
  have J8 := Lib.hid K72
  clear hX8 K72 K71 ce J7h hM6 hM5 v5l vne e0
  go_wp2_with fail
  go_loopw [5, 6] (fun s i wr => ∃ (k : Nat) (q : Value), k ≤ rn ∧ i = .int .i64 (k : Int) ∧ q = s ∧ Hid (PJ W0 q (X8 ++ relsB (m.rels.take k)) wr)) (fun _ i _ => rn - (intOf i).toNat)
  case atStart => exact ⟨0, _, by omega, rfl, rfl, Lib.hid (by have := J8.out; simpa [relsB] using this)⟩
  case round =>
    obtain ⟨k, q, hk, rfl, rfl, hJ⟩ := hrel
    obtain ⟨c0, c1, c2, c3, c4, c5⟩ := mc_of X0.out hJ.out.B
    clear J8
    by_cases hlt : k < rn
    · have hlt' : (k : Int) < rn := by omega
      have hkl : k < m.rels.length := by rw [HR.out.2.1]; exact hlt
      obtain ⟨g, off, rfl, q1, r0, r1, r2⟩ := HR.out.1.at (HBW.out _ hJ.out.B) hlt
      have heq : m.rels.getD k ⟨0, 0, 0⟩ = m.rels[k] := by simp [hkl]
      have hr3 := HR.out.2.2 (m.rels.getD k ⟨0, 0, 0⟩) (by rw [heq]; exact List.getElem_mem hkl)
      clear heq
      have HT := Lib.hid (relsB_take hkl)
      have HLn := Lib.hid (relsB_len (m.rels.take k) (fun r hr => HR.out.2.2 r (List.mem_of_mem_take hr)))
      have hX9 : (X8 ++ relsB (m.rels.take k)).length ≤ 12000 := by have h1 := HLn.out; rw [List.length_take] at h1; rw [List.length_append]; omega
      clear HLn
      generalize m.rels.getD k ⟨0, 0, 0⟩ = r at *
      obtain ⟨kd, at_, wh⟩ := r
      simp only at hr3 r0 r1 r2
      obtain ⟨hkd, hat, hwh⟩ := hr3
      have hatI : (at_ : Int) ≤ 65535 := by omega
      have hwhI : (wh : Int) ≤ 65535 := by omega
      have hkdI : (kd : Int) ≤ 255 := by omega
      have CA := Lib.hid (fun (u : World) => refVar_int (at_ : Int) u (by omega))
      have CW := Lib.hid (fun (u : World) => refVar_int (wh : Int) u (by omega))
      rw [show ((at_ : Int)).toNat = at_ by omega] at CA
      rw [show ((wh : Int)).toNat = wh by omega] at CW
      have la := varL_five at_ (by omega)
      have lw := varL_five wh (by omega)
      have na := varL_ne at_
      have nw := varL_ne wh
      have hB1 := Lib.hid (byte_one hkd)
      have hat0 : (0 : Int) ≤ (at_ : Int) := by omega
      have hwh0 : (0 : Int) ≤ (wh : Int) := by omega
      generalize (kd : Int) = kdI at *
      generalize (at_ : Int) = atI at *
      generalize (wh : Int) = whI at *
      have hJs := hJ.out.B.size
      have hwa : IntKind.u32.wrap atI = atI := by rw [IntKind.wrap_u32]; omega
      have hww : IntKind.u32.wrap whI = whI := by rw [IntKind.wrap_u32]; omega
      go_upto_region 12 with fail
      have X12 := Whole.new wr 48 #[.int .u8 kdI, .int .u16 atI, .int .u16 whI]
      have J12 := hJ.out.belowS (below_new wr (.cells #[.int .u8 kdI, .int .u16 atI, .int .u16 whI] 48))
      have hbp := X12.lt
      generalize hX9e : X8 ++ relsB (m.rels.take k) = X9 at *
      have HX9 := Lib.hid hX9e
      clear hX9e hJ c0 c1 c2 c3 c4 c5 r0 r1 r2
      have J12h := Lib.hid J12
      have X12h := Lib.hid X12
      clear J12 X12
      generalize wr.alloc (.cells #[.int .u8 kdI, .int .u16 atI, .int .u16 whI] 48) = W12 at *
      generalize wr.heap.size = bp at *
      have J12' := J12h.out.drew
      have XB : Whole W12.drew bp 48 #[.int .u8 kdI, .int .u16 atI, .int .u16 whI] := X12h.out.belowS (Below.refl _ _).drew
      have SX := rel_cells XB
      refine wp_region_held_drew (S := fun u => u.cell? ⟨bp, 0, none⟩ = some (.int .u8 kdI) ∧ u.cell? ⟨bp, 1, none⟩ = some (.int .u16 atI) ∧ u.cell? ⟨bp, 2, none⟩ = some (.int .u16 whI)) (by kernel_rfl) SX (fun hHeld => ?_)
      refine wpAnyH_take (i := 0) (v := ?vv301) rfl (by kernel_rfl) (by kernel_rfl) (by kernel_rfl) (fun _ _ _ h => h) (Or.inl ⟨by rfl, ?hy301⟩) (by assumption) ?rest301
      case hy301 =>
        intro u hSu
        obtain ⟨s0, s1, s2⟩ := hSu
        go_simp
        try with_reducible rfl
      try simp only [Act.put, List.getElem_toArray, List.getElem_cons_succ, List.getElem_cons_zero, List.setIfInBounds_toArray, List.set_cons_zero, List.set_cons_succ]
      refine wpAnyH_take (i := 1) (v := ?vv302) rfl (by kernel_rfl) (by kernel_rfl) (by kernel_rfl) (fun _ _ _ h => h) (Or.inl ⟨by rfl, ?hy302⟩) (by assumption) ?rest302
      case hy302 =>
        intro u hSu
        obtain ⟨s0, s1, s2⟩ := hSu
        go_simp
        try with_reducible rfl
      try simp only [Act.put, List.getElem_toArray, List.getElem_cons_succ, List.getElem_cons_zero, List.setIfInBounds_toArray, List.set_cons_zero, List.set_cons_succ]
      refine wpAnyH_take (i := 2) (v := ?vv303) rfl (by kernel_rfl) (by kernel_rfl) (by kernel_rfl) (fun _ _ _ h => h) (Or.inl ⟨by rfl, ?hy303⟩) (by assumption) ?rest303
      case hy303 =>
        intro u hSu
        obtain ⟨s0, s1, s2⟩ := hSu
        go_simp
        try with_reducible rfl
      try simp only [Act.put, List.getElem_toArray, List.getElem_cons_succ, List.getElem_cons_zero, List.setIfInBounds_toArray, List.set_cons_zero, List.set_cons_succ]
      refine wpAnyH_take (i := 5) (v := ?vv304) rfl (by kernel_rfl) (by kernel_rfl) (by kernel_rfl) (fun _ _ _ h => h) (Or.inl ⟨by rfl, ?hy304⟩) (by assumption) ?rest304
      case hy304 =>
        intro u hSu
        obtain ⟨s0, s1, s2⟩ := hSu
        go_simp
        try with_reducible rfl
      try simp only [Act.put, List.getElem_toArray, List.getElem_cons_succ, List.getElem_cons_zero, List.setIfInBounds_toArray, List.set_cons_zero, List.set_cons_succ]
      refine wpAnyH_take (i := 6) (v := ?vv305) rfl (by kernel_rfl) (by kernel_rfl) (by kernel_rfl) (fun _ _ _ h => h) (Or.inl ⟨by rfl, ?hy305⟩) (by assumption) ?rest305
      case hy305 =>
        intro u hSu
        obtain ⟨s0, s1, s2⟩ := hSu
        go_simp
        try with_reducible rfl
      try simp only [Act.put, List.getElem_toArray, List.getElem_cons_succ, List.getElem_cons_zero, List.setIfInBounds_toArray, List.set_cons_zero, List.set_cons_succ]
      refine wpAnyH_take (i := 7) (v := ?vv306) rfl (by kernel_rfl) (by kernel_rfl) (by kernel_rfl) (fun _ _ _ h => h) (Or.inl ⟨by rfl, ?hy306⟩) (by assumption) ?rest306
      case hy306 =>
        intro u hSu
        obtain ⟨s0, s1, s2⟩ := hSu
        go_simp
        try with_reducible rfl
      try simp only [Act.put, List.getElem_toArray, List.getElem_cons_succ, List.getElem_cons_zero, List.setIfInBounds_toArray, List.set_cons_zero, List.set_cons_succ]
      refine wpAnyH_ready (rs := [3]) (by kernel_rfl) (by simp) ?_
      refine AllReadyH.cons rfl (fun K hK => ?_) AllReadyH.nil
      go_simp
      refine hK.out _ _ ?hS401 (fun hHeld => ?rst401)
      case hS401 => exact rel_cells (XB.alloc _)
      clear hK K
      try simp only [Act.put, List.getElem_toArray, List.getElem_cons_succ, List.getElem_cons_zero, List.setIfInBounds_toArray, List.set_cons_zero, List.set_cons_succ]
      have J13 := (J12h.out.belowS (below_new W12 (.cells #[.int .u8 kdI] 5))).drew
      have XB3 : Whole (W12.alloc (.cells #[.int .u8 kdI] 5)).drew bp 48 #[.int .u8 kdI, .int .u16 atI, .int .u16 whI] := (X12h.out.alloc (.cells #[.int .u8 kdI] 5)).belowS (Below.refl _ _).drew
      have ce : ∀ j u, (u8s [UInt8.ofNat kd])[j]? = some u → (W12.alloc (.cells #[.int .u8 kdI] 5)).drew.cell? ((⟨W12.heap.size, 0, none⟩ : Addr).add j) = some u := by rw [hB1.out]; exact oneAt W12 (.int .u8 kdI) 5
      generalize (W12.alloc (.cells #[.int .u8 kdI] 5)).drew = U13 at *
      generalize W12.heap.size = bq at *
      refine wpAnyH_ready (rs := [4]) (by kernel_rfl) (by simp) ?_
      refine AllReadyH.cons rfl (fun K hK => ?_) AllReadyH.nil
      refine wo_appX (ys := [UInt8.ofNat kd]) rfl rfl rfl J13 XB3 (by decide) rfl ce (by simp; omega) (fun y14 u14 K14 XB4 => ?_)
      refine hK.out _ _ ?hS402 (fun hHeld => ?rst402)
      case hS402 => exact rel_cells XB4
      clear hK K
      try simp only [Act.put, List.getElem_toArray, List.getElem_cons_succ, List.getElem_cons_zero, List.setIfInBounds_toArray, List.set_cons_zero, List.set_cons_succ]
      have h14 : (X9 ++ [UInt8.ofNat kd]).length ≤ 12010 := by rw [List.length_append]; simp; omega
      clear ce J13 XB3
      refine wpAnyH_ready (rs := [8]) (by kernel_rfl) (by simp) ?_
      refine AllReadyH.cons rfl (fun K hK => ?_) AllReadyH.nil
      (go_simp; go_at_call 30; (with_reducible refine (CA.out _).mono ?_); rintro e u15 ⟨y15, rfl, own, hb⟩; obtain ⟨g15, p15, rfl, ce⟩ := owns_give own na; have K15 := K14.belowS hb; have XB5 := XB4.belowS hb; clear own hb)
      refine hK.out _ _ ?hS403 (fun hHeld => ?rst403)
      case hS403 => exact rel_cells XB5
      clear hK K
      try simp only [Act.put, List.getElem_toArray, List.getElem_cons_succ, List.getElem_cons_zero, List.setIfInBounds_toArray, List.set_cons_zero, List.set_cons_succ]
      refine wpAnyH_ready (rs := [9]) (by kernel_rfl) (by simp) ?_
      refine AllReadyH.cons rfl (fun K hK => ?_) AllReadyH.nil
      refine wo_appX rfl rfl rfl K15 XB5 (by decide) rfl ce (by omega) (fun y16 u16 K16 XB6 => ?_)
      refine hK.out _ _ ?hS404 (fun hHeld => ?rst404)
      case hS404 => exact rel_cells XB6
      clear hK K
      try simp only [Act.put, List.getElem_toArray, List.getElem_cons_succ, List.getElem_cons_zero, List.setIfInBounds_toArray, List.set_cons_zero, List.set_cons_succ]
      refine wpAnyH_take (i := 10) (v := ?vv405) rfl (by kernel_rfl) (by kernel_rfl) (by kernel_rfl) (fun _ _ _ h => h) (Or.inl ⟨by rfl, ?hy405⟩) (by assumption) ?rest405
      case hy405 =>
        intro u hSu
        obtain ⟨s0, s1, s2⟩ := hSu
        go_simp
        try with_reducible rfl
      try simp only [Act.put, List.getElem_toArray, List.getElem_cons_succ, List.getElem_cons_zero, List.setIfInBounds_toArray, List.set_cons_zero, List.set_cons_succ]
      have h16 : (X9 ++ [UInt8.ofNat kd] ++ varL at_).length ≤ 12020 := by rw [List.length_append]; omega
      refine wpAnyH_done (by kernel_rfl) ?_ _
      clear ce K15 K14 XB4 XB5 hHeld SX XB J12'
      obtain ⟨r0, r1, r2⟩ := rel_cells XB6
      have K16h := Lib.hid K16
      clear K16
      go_wp2_with (first | (go_at_call 30; (with_reducible refine (CW.out _).mono ?_); rintro e u17 ⟨y17, rfl, own, hb⟩; obtain ⟨g17, p17, rfl, ce⟩ := owns_give own nw; have K17 := K16h.out.belowS hb; clear own hb r0 r1 r2) | (at_builtin; refine wl_app rfl rfl rfl rfl K17 rfl ce (by omega) (fun y18 u18 K18 => ?_)))
      have HK := Lib.hid (show PJ W0 y18 (X8 ++ relsB (m.rels.take (k + 1))) u18 by rw [HT.out, ← List.append_assoc, HX9.out]; simpa [relL, List.append_assoc] using K18)
      clear K18 K17 ce
      go_roundw
      case rel => exact ⟨k + 1, _, by omega, by go_num, rfl, HK⟩
      case measure => simp [intOf]; omega
    · obtain rfl : k = rn := by omega
      have HE := Lib.hid (show putL m = X8 ++ relsB (m.rels.take k) by rw [List.take_of_length_le (by rw [HR.out.2.1]; omega), HX8.out, HX7.out, HX6.out]; unfold putL bodyL relsL; rw [HR.out.2.1, Nat.mod_eq_of_lt (by omega)]; simp [List.append_assoc])
      clear c0 c1 c2 c3 c4
      go_wp2_with fail
      refine bodyPost_ret (v := .tuple #[q, .int .i64 0]) (by simp [results, Try.results13, go_sem]) rfl ⟨q, rfl, ?_, HBW.out _ hJ.out.B⟩
      rw [HE.out]
      exact owns_base hJ.out.own hW0s
end
end Go.Proofs.Ytdlinlkdielmkaa.OR
