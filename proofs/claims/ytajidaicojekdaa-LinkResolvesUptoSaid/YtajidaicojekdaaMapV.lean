/-
  A map whose keys are texts, as a function: what it tells at each text, and what is still to come of it in a range. Nothing here is a statement of the seed.
-/
import Derived.Test.YtajidaicojekdaaObjA
import Derived.Maps.RangeWalk
import Derived.Sort.KeysCollected
set_option linter.unusedSimpArgs false
set_option linter.unusedVariables false
namespace Go.Proofs.Ytajidaicojekdaa.MV
open Go.RowKit Go.Maps WM NR OM OR
set_option maxRecDepth 10000
/-- an element reads as itself, if it has the shape -/
def Rv (ok : Value → Bool) (v : Value) : Option (DataW Value × List MemPlace) := if ok v then some (.held v, []) else none
theorem rv_mk {ok : Value → Bool} {v : Value} (h : ok v = true) : Rv ok v = some (.held v, []) := by simp [Rv, h]
theorem rv_inv {ok : Value → Bool} {v : Value} {z : DataW Value × List MemPlace} (h : Rv ok v = some z) : ok v = true ∧ z = (.held v, []) := by
  unfold Rv at h
  split at h
  · next h1 => simp only [Option.some.injEq] at h; exact ⟨h1, h.symm⟩
  · cases h
/-- what the datum tells, told by a function -/
def Tells (ok : Value → Bool) (D : DataW Value) (f : List UInt8 → Option Value) : Prop :=
  ∀ s, s.length ≤ maxLen → Maps.has D (.string s) = (f s).isSome ∧ ∀ v, f s = some v → ok v = true ∧ ∀ zd, D.atKey (.string s) zd = .held v
/-- block b is a map that tells what f tells -/
def MapV (P : Program) (K : TypeId) (ok : Value → Bool) (u : World) (b : Nat) (f : List UInt8 → Option Value) : Prop :=
  ∃ D : DataW Value, u.ownsMap P K (Rv ok) b (Maps.size D) D ∧ Tells ok D f
theorem own_size {P : Program} {K : TypeId} {R : Value → Option (DataW Value × List MemPlace)} {u : World} {b n : Nat} {D : DataW Value} (h : u.ownsMap P K R b n D) : u.ownsMap P K R b (Maps.size D) D := by
  obtain ⟨es, clock, h1, h2, h3, rfl⟩ := h
  exact ⟨es, clock, h1, h2, by simp [Maps.size, length_sorted], rfl⟩
theorem str_lit (s : List UInt8) : WideAt.IsKeyLit (.string s) := trivial
theorem str_ne {s s' : List UInt8} (h : s' ≠ s) : (Lit.string s') ≠ .string s := fun e => h (by simpa using e)
section
variable {P : Program} {K E T : TypeId} {ok : Value → Bool} {u u' : World} {b : Nat} {f : List UInt8 → Option Value}
theorem key_of (hk : P.underlying K = some .string) {s : List UInt8} (hs : s.length ≤ maxLen) : keyOf P K (.string (bs s)) = some (.string s) := by
  have h : (bs s).size ≤ maxLen := by simpa [bs, ByteArray.size] using hs
  have := Go.WideMaps.keyOf_string_mk hk h
  simpa [bs] using this
theorem MapV.made (u : World) : MapV P K ok (u.alloc (.map #[] 0)) u.heap.size (fun _ => none) := by
  refine ⟨_, own_size (World.ownsMap_made u P K (Rv ok)), fun s hs => ⟨rfl, fun v h => by cases h⟩⟩
theorem MapV.lt (h : MapV P K ok u b f) : b < u.heap.size := by obtain ⟨D, h1, _⟩ := h; exact h1.lt
theorem MapV.kept (h : MapV P K ok u b f) {row : Option Nat} (hg : u.grownBy u' row) (hne : some b ≠ row) : MapV P K ok u' b f := by
  obtain ⟨D, h1, h2⟩ := h
  exact ⟨D, h1.kept hg hne, h2⟩
theorem MapV.same (h : MapV P K ok u b f) (hb : u'.heap[b]? = u.heap[b]?) : MapV P K ok u' b f := by
  obtain ⟨D, ⟨es, clock, e1, e2⟩, h2⟩ := h
  exact ⟨D, ⟨es, clock, by rw [hb]; exact e1, e2⟩, h2⟩
theorem MapV.below {B : Nat} (h : MapV P K ok u b f) (hb : Below B u u') (hB : b < B) : MapV P K ok u' b f := h.same (hb.block b hB)
theorem MapV.belowS (h : MapV P K ok u b f) (hb : Below u.heap.size u u') : MapV P K ok u' b f := h.below hb h.lt
theorem MapV.as {g : List UInt8 → Option Value} (h : MapV P K ok u b f) (he : ∀ s, s.length ≤ maxLen → f s = g s) : MapV P K ok u b g := by
  obtain ⟨D, h1, h2⟩ := h
  exact ⟨D, h1, fun s hs => by rw [← he s hs]; exact h2 s hs⟩
theorem MapV.is_ok (h : MapV P K ok u b f) {s : List UInt8} (hs : s.length ≤ maxLen) {v : Value} (hv : f s = some v) : ok v = true := by
  obtain ⟨D, _, h2⟩ := h
  exact ((h2 s hs).2 v hv).1
theorem MapV.look_ok (h : MapV P K ok u b f) (hk : P.underlying K = some .string) (ht : P.underlying T = some (.map K E)) {z : Value} (hz : ∀ w : World, (zeroValue E).run P w = .ok z w) (hzo : ok z = true) {s : List UInt8} (hs : s.length ≤ maxLen) :
    (Instr.lookup T (.map (some b)) (.string (bs s)) true).run P u = .ok (.tuple #[(f s).getD z, .bool (f s).isSome]) u := by
  obtain ⟨D, h1, h2⟩ := h
  obtain ⟨v, ps, hr, hv⟩ := h1.look_ok (string_keyed hk) ht (hz u) (rv_mk hzo) (key_of hk hs)
  obtain ⟨_, e2⟩ := rv_inv hv
  simp only [Prod.mk.injEq] at e2
  rw [(h2 s hs).1] at hr
  cases hf : f s with
  | none =>
    have := (h2 s hs).1
    rw [hf] at this
    have e3 := Maps.atKey_of_not_has this (.held z)
    rw [e3] at e2
    simp only [DataW.held.injEq] at e2
    rw [hr, hf, ← e2.1]
    rfl
  | some y =>
    have e3 := ((h2 s hs).2 y hf).2 (.held z)
    rw [e3] at e2
    simp only [DataW.held.injEq] at e2
    rw [hr, hf, ← e2.1]
    rfl
theorem MapV.look (h : MapV P K ok u b f) (hk : P.underlying K = some .string) (ht : P.underlying T = some (.map K E)) {z : Value} (hz : ∀ w : World, (zeroValue E).run P w = .ok z w) (hzo : ok z = true) {s : List UInt8} (hs : s.length ≤ maxLen) :
    (Instr.lookup T (.map (some b)) (.string (bs s)) false).run P u = .ok ((f s).getD z) u := by
  obtain ⟨D, h1, h2⟩ := h
  obtain ⟨v, ps, hr, hv⟩ := h1.lookup (string_keyed hk) ht (hz u) (rv_mk hzo) (key_of hk hs)
  obtain ⟨_, e2⟩ := rv_inv hv
  simp only [Prod.mk.injEq] at e2
  cases hf : f s with
  | none =>
    have := (h2 s hs).1
    rw [hf] at this
    have e3 := Maps.atKey_of_not_has this (.held z)
    rw [e3] at e2
    simp only [DataW.held.injEq] at e2
    rw [hr, ← e2.1]
    rfl
  | some y =>
    have e3 := ((h2 s hs).2 y hf).2 (.held z)
    rw [e3] at e2
    simp only [DataW.held.injEq] at e2
    rw [hr, ← e2.1]
    rfl
/-- a map tells no more than a list has -/
theorem tells_size {R : Value → Option (DataW Value × List MemPlace)} {D : DataW Value} {n : Nat} (h : u.ownsMap P K R b n D) (hk : P.underlying K = some .string) (ht : Tells ok D f) {l : List (List UInt8)} (hl : ∀ s, s.length ≤ maxLen → (f s).isSome = true → s ∈ l) : Maps.size D ≤ l.length := by
  obtain ⟨es, clock, h1, F, h3, rfl⟩ := h
  have hap := Maps.fit_apart (string_keyed hk) F
  have hst : ∀ p ∈ es.toList.map (WideElems.rg P K R), ∃ s, p.1 = .string s ∧ s ∈ l := by
    intro p hp
    obtain ⟨x, hx, rfl⟩ := List.mem_map.1 hp
    obtain ⟨y, hy⟩ := F.reads x hx
    obtain ⟨s, hs1, hs2, hs3⟩ := Maps.keyOf_str hk (WideElems.rd_key hy)
    refine ⟨s, by rw [WideElems.rg_of hy]; exact hs2, hl s hs3 ?_⟩
    rw [← (ht s hs3).1, Maps.has_eq]
    exact List.any_eq_true.2 ⟨WideElems.rg P K R x, mem_sorted.2 (List.mem_map.2 ⟨x, hx, rfl⟩), by rw [WideElems.rg_of hy, hs2]; exact WideAt.sameKey_self (str_lit s)⟩
  have e : Maps.size (DataW.map ((es.toList.map (WideElems.rg P K R)).foldr DataW.insert [])) = (es.toList.map (WideElems.rg P K R)).length := by simp [Maps.size, length_sorted]
  rw [e]
  generalize es.toList.map (WideElems.rg P K R) = ps at hap hst
  clear e h1 F h3 ht
  -- the keys, as texts: no one twice, all on the list
  have : ∀ (ps : List (Lit × DataW Value)) (l : List (List UInt8)), ps.Pairwise (fun p q => p.1 ≠ q.1) → (∀ p ∈ ps, ∃ s, p.1 = .string s ∧ s ∈ l) → ps.length ≤ l.length := by
    intro ps
    induction ps with
    | nil => intro l _ _; simp
    | cons p ps ih =>
      intro l h1 h2
      obtain ⟨h3, h4⟩ := List.pairwise_cons.1 h1
      obtain ⟨s, e1, e2⟩ := h2 p (List.mem_cons_self ..)
      have h5 := ih (l.erase s) h4 fun q hq => by
        obtain ⟨s', e3, e4⟩ := h2 q (List.mem_cons_of_mem _ hq)
        refine ⟨s', e3, (List.mem_erase_of_ne ?_).2 e4⟩
        rintro rfl
        exact h3 q hq (e1.trans e3.symm)
      rw [List.length_erase_of_mem e2] at h5
      have h6 := List.length_pos_of_mem e2
      simp only [List.length_cons]
      omega
  exact this ps l hap hst
theorem MapV.put (h : MapV P K ok u b f) (hk : P.underlying K = some .string) (ht : P.underlying T = some (.map K E)) {l : List (List UInt8)} (hl : ∀ s, s.length ≤ maxLen → (f s).isSome = true → s ∈ l) (hn : l.length < maxLen) {s : List UInt8} (hs : s.length ≤ maxLen) {v : Value} (hv : ok v = true) :
    ∃ u', (Instr.mapUpdate T (.map (some b)) (.string (bs s)) v).run P u = .ok () u' ∧ MapV P K ok u' b (fun x => if x = s then some v else f x) ∧ u.grownBy u' (some b) := by
  obtain ⟨D, h1, h2⟩ := h
  have hz := tells_size h1 hk h2 hl
  obtain ⟨u', hr, h3, hg⟩ := h1.update (string_keyed hk) ht (show Maps.size D < maxLen by omega) (key_of hk hs) (rv_mk hv)
  refine ⟨u', hr, ⟨_, own_size h3, fun s' hs' => ?_⟩, hg⟩
  by_cases e : s' = s
  · subst e
    simp only [if_true]
    exact ⟨Maps.has_put_same h1.isMap (str_lit _) _, fun v' hv' => by cases hv'; exact ⟨hv, fun zd => Maps.atKey_put_same h1.isMap (str_lit _) _ _⟩⟩
  · simp only [if_neg e]
    rw [Maps.has_put_other (str_ne e)]
    exact ⟨(h2 s' hs').1, fun v' hv' => ⟨((h2 s' hs').2 v' hv').1, fun zd => by rw [Maps.atKey_put_other (str_ne e)]; exact ((h2 s' hs').2 v' hv').2 zd⟩⟩
theorem MapV.drop (h : MapV P K ok u b f) (hk : P.underlying K = some .string) (ht : P.underlying T = some (.map K E)) {s : List UInt8} (hs : s.length ≤ maxLen) (ty : TypeId) :
    ∃ u', (Builtin.delete_ #[T, K] ty #[.map (some b), .string (bs s)]).run P u = .ok (.tuple #[]) u' ∧ MapV P K ok u' b (fun x => if x = s then none else f x) ∧ u.grownBy u' (some b) ∧ u'.heap.size = u.heap.size := by
  obtain ⟨D, h1, h2⟩ := h
  obtain ⟨u', hr, h3, hg⟩ := h1.drop (string_keyed hk) ht (key_of hk hs) ty
  refine ⟨u', hr, ⟨_, own_size h3, fun s' hs' => ?_⟩, hg.grown, by obtain ⟨_, _, _, _, _, rfl⟩ := hg; simp [ChangeMaps.setBlock]⟩
  by_cases e : s' = s
  · subst e
    simp only [if_true]
    exact ⟨Maps.has_del_same, fun v' hv' => by cases hv'⟩
  · simp only [if_neg e]
    rw [Maps.has_del_other (str_ne e)]
    exact ⟨(h2 s' hs').1, fun v' hv' => ⟨((h2 s' hs').2 v' hv').1, fun zd => by rw [Maps.atKey_del_other (str_ne e)]; exact ((h2 s' hs').2 v' hv').2 zd⟩⟩
/-- delete, at the operation -/
theorem wpList_delete_V {ops : Array Oper} {rest : List Oper} {o : Oper} {ac : Act} {Q : Exit → Act → World → Prop} (hgd : o.guard = none) (m x : Operand) (hop : o.op = Op.call { callee := Callee.builtin Builtin.delete, args := #[m, x], argTypes := #[T, K] })
    (hk : P.underlying K = some .string) (ht : P.underlying T = some (.map K E)) (hm : ac.eval m = .map (some b)) (h : MapV P K ok u b f) (s : List UInt8) (hx : ac.eval x = .string (bs s)) (hs : s.length ≤ maxLen)
    (hK : ∀ w', MapV P K ok w' b (fun x => if x = s then none else f x) → u.grownBy w' (some b) → w'.heap.size = u.heap.size → wpList P ops Q rest (ac.put o.dst (.tuple #[])) w') :
    wpList P ops Q (o :: rest) ac u := by
  refine wpList_plain hgd fun K' hK' => ?_
  obtain ⟨w', hrun, r1, r2, r3⟩ := h.drop hk ht hs o.type
  unfold Oper.wp
  simp [execOp, hop, resolve, invoke, builtin, hm, hx, hrun, Result.andThen]
  exact hK' _ _ (hK w' r1 r2 r3)
/-- a range over block b is under way, by the iterator r; left: what is still to come -/
def RangeV (P : Program) (K : TypeId) (ok : Value → Bool) (u : World) (b r : Nat) (f : List UInt8 → Option Value) (left : List UInt8 → Bool) (cnt : Nat) : Prop :=
  ∃ (D : DataW Value) (lf : Lit → Bool), u.ranges P K (Rv ok) b r (Maps.size D) D lf cnt ∧ Tells ok D f ∧ ∀ s, s.length ≤ maxLen → lf (.string s) = left s
variable {r cnt : Nat} {left : List UInt8 → Bool}
theorem RangeV.map (h : RangeV P K ok u b r f left cnt) : MapV P K ok u b f := by
  obtain ⟨D, lf, h1, h2, h3⟩ := h
  exact ⟨D, h1.owns, h2⟩
theorem RangeV.lt (h : RangeV P K ok u b r f left cnt) : r < u.heap.size := by obtain ⟨D, lf, h1, _⟩ := h; exact h1.lt
theorem RangeV.ne (h : RangeV P K ok u b r f left cnt) : r ≠ b := by obtain ⟨D, lf, h1, _⟩ := h; exact h1.ne
theorem RangeV.left_eq (h : RangeV P K ok u b r f left cnt) : u.rangeLeft b r = cnt := by obtain ⟨D, lf, h1, _⟩ := h; exact h1.left_eq
theorem RangeV.kept (h : RangeV P K ok u b r f left cnt) {row : Option Nat} (hg : u.grownBy u' row) (hb : some b ≠ row) (hr : some r ≠ row) : RangeV P K ok u' b r f left cnt := by
  obtain ⟨D, lf, h1, h2, h3⟩ := h
  exact ⟨D, lf, h1.kept hg hb hr, h2, h3⟩
theorem RangeV.belowS (h : RangeV P K ok u b r f left cnt) (hb : Below u.heap.size u u') : RangeV P K ok u' b r f left cnt := h.kept (grown_below none hb) (by simp) (by simp)
theorem MapV.range (h : MapV P K ok u b f) (hk : P.underlying K = some .string) (ht : P.underlying T = some (.map K E)) :
    ∃ u' cnt, (Instr.range T (.map (some b))).run P u = .ok (.pointer (some ⟨u.heap.size, 0, none⟩)) u' ∧ RangeV P K ok u' b u.heap.size f (fun s => (f s).isSome) cnt ∧ Below u.heap.size u u' ∧ u'.heap.size = u.heap.size + 1 := by
  obtain ⟨D, h1, h2⟩ := h
  obtain ⟨u', hr, h3, hg, hs⟩ := h1.range (string_keyed hk) ht
  exact ⟨u', _, hr, ⟨D, _, h3, h2, fun s hs => (h2 s hs).1⟩, (Below.refl _ u).grown hg (Nat.le_refl _) (fun j hj => by cases hj), hs⟩
theorem RangeV.next (h : RangeV P K ok u b r f left cnt) (hk : P.underlying K = some .string) (ty : TypeId) :
    ((∀ s, s.length ≤ maxLen → left s = false) ∧ (Instr.next (.pointer (some ⟨r, 0, none⟩)) false ty).run P u = .ok (.tuple #[.bool false]) u) ∨
    ∃ s v u' cnt', s.length ≤ maxLen ∧ left s = true ∧ f s = some v ∧ (Instr.next (.pointer (some ⟨r, 0, none⟩)) false ty).run P u = .ok (.tuple #[.bool true, .string (bs s), v]) u' ∧
      RangeV P K ok u' b r f (fun x => left x && !decide (x = s)) cnt' ∧ cnt' < cnt ∧ u.grownBy u' (some r) ∧ u'.heap.size = u.heap.size ∧ (Instr.entry (.pointer (some ⟨r, 0, none⟩))).run P u' = .ok (.tuple #[.string (bs s), v]) u' := by
  obtain ⟨D, lf, h1, h2, h3⟩ := h
  rcases h1.next (string_keyed hk) ty with ⟨_, hl, hrun⟩ | ⟨key, v, kl, y, u', cnt', hkey, hlk, hv, hat, hrun, hrg, hlt, hgr, hsz, hen⟩
  · exact Or.inl ⟨fun s hs => by rw [← h3 s hs]; exact hl _, hrun⟩
  · obtain ⟨s, rfl, rfl, hs⟩ := Maps.keyOf_str hk hkey
    obtain ⟨_, e2⟩ := rv_inv hv
    subst e2
    have hsome : (f s).isSome = true := by
      rw [← (h2 s hs).1]
      exact Maps.has_true_of_atKey hat
    obtain ⟨v', hv'⟩ := Option.isSome_iff_exists.1 hsome
    have e3 := ((h2 s hs).2 v' hv').2 (.held v)
    rw [hat] at e3
    simp only [DataW.held.injEq] at e3
    subst e3
    refine Or.inr ⟨s, v, u', cnt', hs, by rw [← h3 s hs]; exact hlk, hv', hrun, ⟨D, _, hrg, h2, fun x hx => ?_⟩, hlt, hgr, hsz, hen⟩
    simp only
    rw [h3 x hx]
    by_cases e : x = s
    · subst e
      rw [WideAt.sameKey_self (str_lit _)]
      simp
    · rw [Maps.sameKey_ne (str_ne e)]
      simp [e]
/-- a range's step, at the operation -/
theorem wpList_next_V {β : Type} {ops : Array Oper} {rest : List Oper} {o : Oper} {ac : Act} {Q : Exit → Act → World → Prop} (hgd : o.guard = none) (it : Operand) (hop : o.op = Op.next it false) (hk : P.underlying K = some .string)
    (mk : β → Value) (inv : ∀ s v, f s = some v → ∃ c, v = mk c) (hit : ac.eval it = .pointer (some ⟨r, 0, none⟩)) (h : RangeV P K ok u b r f left cnt)
    (hDone : (∀ s, s.length ≤ maxLen → left s = false) → wpList P ops Q rest (ac.put o.dst (.tuple #[.bool false])) u)
    (hMore : ∀ (s : List UInt8) (c : β) (w' : World) (cnt' : Nat), s.length ≤ maxLen → left s = true → f s = some (mk c) → RangeV P K ok w' b r f (fun x => left x && !decide (x = s)) cnt' → cnt' < cnt → u.grownBy w' (some r) → w'.heap.size = u.heap.size →
      (Instr.entry (.pointer (some ⟨r, 0, none⟩))).run P w' = .ok (.tuple #[.string (bs s), mk c]) w' → wpList P ops Q rest (ac.put o.dst (.tuple #[.bool true, .string (bs s), mk c])) w') :
    wpList P ops Q (o :: rest) ac u := by
  refine wpList_plain hgd fun K' hK' => ?_
  unfold Oper.wp
  rcases h.next hk o.type with ⟨hl, hrun⟩ | ⟨s, v, w', cnt', hs, hlk, hf, hrun, hrg, hlt, hgr, hsz, hen⟩
  · simp [execOp, hop, hit, hrun, Result.andThen]
    exact hK' _ _ (hDone hl)
  · obtain ⟨c, rfl⟩ := inv s v hf
    simp [execOp, hop, hit, hrun, Result.andThen]
    exact hK' _ _ (hMore s c w' cnt' hs hlk hf hrg hlt hgr hsz hen)
end
end Go.Proofs.Ytajidaicojekdaa.MV
