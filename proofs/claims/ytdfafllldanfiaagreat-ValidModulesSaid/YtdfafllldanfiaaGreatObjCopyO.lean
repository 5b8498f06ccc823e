/-
  A module copied, as the reference does: the copy's rows are its own. Nothing here is a statement of the seed.
-/
import Derived.Test.YtdfafllldanfiaaGreatObjK
import Derived.Test.YtdfafllldanfiaaGreatPairs
import Derived.Lib.AppendZerosOnto
set_option linter.unusedSimpArgs false
set_option linter.unusedVariables false
namespace Go.Proofs.YtdfafllldanfiaaGreat.OR
open Go.RowKit WM NR OM
set_option maxHeartbeats 4000000
set_option maxRecDepth 10000
/-- what holds all the way of the reference's Copy -/
structure KJ (w : World) (cs : Array Value) (u : World) : Prop where
  X : Whole u w.heap.size 26 cs
  Y : ∃ y0 y1 y2 y3 y4 y5, Whole u (w.heap.size + 1) 26 #[y0, y1, y2, y3, y4, y5]
  B : Below w.heap.size w u
  sz : w.heap.size + 2 ≤ u.heap.size
theorem KJ.belowS {w u u' : World} {cs : Array Value} (h : KJ w cs u) (hb : Below u.heap.size u u') : KJ w cs u' := by
  obtain ⟨y0, y1, y2, y3, y4, y5, hY⟩ := h.Y
  exact ⟨h.X.belowS hb, ⟨y0, y1, y2, y3, y4, y5, hY.belowS hb⟩, h.B.trans (hb.mono h.B.size), Nat.le_trans h.sz hb.size⟩
theorem KJ.of {w u : World} {cs : Array Value} (h : CJ w cs u) : KJ w cs u := ⟨h.X, ⟨_, _, _, _, _, _, h.Y⟩, h.B, h.sz⟩
abbrev onTwo (w : World) : Nat → Prop := fun g => w.heap.size + 2 ≤ g
theorem owns_keepG {u u' : World} {B : Nat} {e : TypeId} {size n : Nat} {v : Value} {xs : List Value} (h : u.ownsRow B e size v n xs) (hk : ∀ g, B ≤ g → g < u.heap.size → u'.heap[g]? = u.heap[g]?) : u'.ownsRow B e size v n xs := by
  refine ⟨h.1, ?_⟩
  rcases h.2 with h0 | ⟨g, cap, cur, e1, hb, hg, h3, h4, h5, h6⟩
  · exact Or.inl h0
  · exact Or.inr ⟨g, cap, cur, e1, hb, by rw [hk g hb (Array.getElem?_eq_some_iff.1 hg).1]; exact hg, h3, h4, h5, h6⟩
theorem owns_lt {u : World} {B : Nat} {e : TypeId} {size n : Nat} {v : Value} {xs : List Value} (h : u.ownsRow B e size v n xs) {g : Nat} (hg : v.ownBlock = some g) : B ≤ g ∧ g < u.heap.size := by
  rcases h.2 with ⟨rfl, _⟩ | ⟨g', cap, cur, rfl, hb, hh, _⟩
  · simp [Value.ownBlock] at hg
  · simp [Value.ownBlock] at hg
    subst hg
    exact ⟨hb, (Array.getElem?_eq_some_iff.1 hh).1⟩
/-- rows of its own, those of one type apart -/
structure OwnD (B : Nat) (m : Md) (w : World) (ea : Option Addr) (en ec : Nat) (ia : Option Addr) (im ic : Nat) (ca : Option Addr) (cn cc : Nat) (da : Option Addr) (dn dc : Nat) (ra : Option Addr) (rn rc : Nat) : Prop where
  own : Own5 B m w ea en ec ia im ic ca cn cc da dn dc ra rn rc
  ei : ∀ g, (Value.slice ea en ec).ownBlock = some g → (Value.slice ia im ic).ownBlock ≠ some g
  cd : ∀ g, (Value.slice ca cn cc).ownBlock = some g → (Value.slice da dn dc).ownBlock ≠ some g
theorem OwnD.keep {B : Nat} {u u' : World} {ea : Option Addr} {en ec : Nat} {ia : Option Addr} {im ic : Nat} {ca : Option Addr} {cn cc : Nat} {da : Option Addr} {dn dc : Nat} {ra : Option Addr} {rn rc : Nat} {m : Md} (h : OwnD B m u ea en ec ia im ic ca cn cc da dn dc ra rn rc) (hk : ∀ g, B ≤ g → g < u.heap.size → u'.heap[g]? = u.heap[g]?) : OwnD B m u' ea en ec ia im ic ca cn cc da dn dc ra rn rc :=
  ⟨⟨owns_keepG h.own.ex hk, owns_keepG h.own.im hk, owns_keepG h.own.cd hk, owns_keepG h.own.dt hk, owns_keepG h.own.rl hk⟩, h.ei, h.cd⟩
/-- what each operation of Copy's region leaves -/
def RC (w : World) (x : ByteArray) (m : Md) : Nat → Value → World → Prop
  | 2 => fun v u => ∃ g, v = .slice (some ⟨g, 0, none⟩) 0 0 ∧ u.ownsRow (w.heap.size + 2) 9 1 v 0 []
  | 5 => fun v u => u.ownsRow (w.heap.size + 2) 9 1 v m.exps.length (strs m.exps)
  | 6 => fun v u => ∃ g, v = .slice (some ⟨g, 0, none⟩) 0 0 ∧ u.ownsRow (w.heap.size + 2) 9 1 v 0 []
  | 9 => fun v u => u.ownsRow (w.heap.size + 2) 9 1 v m.imps.length (strs m.imps)
  | 10 => fun v u => ∃ g, v = .slice (some ⟨g, 0, none⟩) 0 0 ∧ u.ownsRow (w.heap.size + 2) 40 1 v 0 []
  | 13 => fun v u => u.ownsRow (w.heap.size + 2) 40 1 v m.code.length (u32s m.code)
  | 14 => fun v u => ∃ g, v = .slice (some ⟨g, 0, none⟩) 0 0 ∧ u.ownsRow (w.heap.size + 2) 40 1 v 0 []
  | 17 => fun v u => u.ownsRow (w.heap.size + 2) 40 1 v m.data.length (u32s m.data)
  | 18 => fun v u => ∃ g, v = .slice (some ⟨g, 0, none⟩) 0 0 ∧ u.ownsRow (w.heap.size + 2) 47 3 v 0 []
  | 21 => fun v u => u.ownsRow (w.heap.size + 2) 47 3 v m.rels.length (relC m.rels)
  | 22 => fun v u => ∃ ea en ec ia im ic ca cn cc da dn dc ra rn rc, v = mV x ea en ec ia im ic ca cn cc da dn dc ra rn rc ∧ OwnD (w.heap.size + 2) m u ea en ec ia im ic ca cn cc da dn dc ra rn rc
  | 23 => fun v u => ∃ ea en ec ia im ic ca cn cc da dn dc ra rn rc, Whole u (w.heap.size + 1) 26 (mCs x ea en ec ia im ic ca cn cc da dn dc ra rn rc) ∧ OwnD (w.heap.size + 2) m u ea en ec ia im ic ca cn cc da dn dc ra rn rc
  | _ => fun _ _ => True
theorem RdM.keep {G : Nat → Prop} {u u' : World} {ea : Option Addr} {en ec : Nat} {ia : Option Addr} {im ic : Nat} {ca : Option Addr} {cn cc : Nat} {da : Option Addr} {dn dc : Nat} {ra : Option Addr} {rn rc : Nat} {m : Md} (h : RdM G u ea en ec ia im ic ca cn cc da dn dc ra rn rc m) (hk : ∀ g, G g → g < u.heap.size → u'.heap[g]? = u.heap[g]?) : RdM G u' ea en ec ia im ic ca cn cc da dn dc ra rn rc m := ⟨h.ex.keep hk, h.im.keep hk, h.cd.keep hk, h.dt.keep hk, h.rl.keep hk⟩
theorem RC.keep {w : World} {x : ByteArray} {m : Md} {j : Nat} {v : Value} {u u' : World} (h : RC w x m j v u) (hk : ∀ g, onTwo w g → g < u.heap.size → u'.heap[g]? = u.heap[g]?) (h23 : j = 23 → ∀ cs, Whole u (w.heap.size + 1) 26 cs → Whole u' (w.heap.size + 1) 26 cs) : RC w x m j v u' := by
  unfold RC at h ⊢
  split at h
  all_goals first | exact h | exact owns_keepG h hk | (obtain ⟨g, e, h1⟩ := h; exact ⟨g, e, owns_keepG h1 hk⟩) | skip
  · obtain ⟨ea, en, ec, ia, im, ic, ca, cn, cc, da, dn, dc, ra, rn, rc, h1, h2⟩ := h
    exact ⟨ea, en, ec, ia, im, ic, ca, cn, cc, da, dn, dc, ra, rn, rc, h1, h2.keep hk⟩
  · obtain ⟨ea, en, ec, ia, im, ic, ca, cn, cc, da, dn, dc, ra, rn, rc, h1, h2⟩ := h
    exact ⟨ea, en, ec, ia, im, ic, ca, cn, cc, da, dn, dc, ra, rn, rc, h23 rfl _ h1, h2.keep hk⟩
/-- which list an operation is about -/
def fam : Nat → Nat
  | 2 => 1 | 5 => 1 | 6 => 2 | 9 => 2 | 10 => 3 | 13 => 3 | 14 => 4 | 17 => 4 | 18 => 5 | 21 => 5 | _ => 0
/-- rows of two lists are two blocks -/
def DC (i j : Nat) (v v' : Value) : Prop := fam i ≠ 0 → fam j ≠ 0 → fam i ≠ fam j → ∀ g, v.ownBlock = some g → v'.ownBlock ≠ some g
theorem DC.symm (i j : Nat) (v v' : Value) (h : DC i j v v') : DC j i v' v := fun h1 h2 h3 g hg hg' => h h2 h1 (fun e => h3 e.symm) g hg' hg
theorem RC.lt {w : World} {x : ByteArray} {m : Md} {j : Nat} {v : Value} {u : World} (h : RC w x m j v u) (hf : fam j ≠ 0) {g : Nat} (hg : v.ownBlock = some g) : g < u.heap.size := by
  unfold RC at h
  split at h
  all_goals first | exact (owns_lt h hg).2 | (obtain ⟨_, _, h1⟩ := h; exact (owns_lt h1 hg).2) | skip
  · exact absurd rfl hf
  · exact absurd rfl hf
  · exfalso
    apply hf
    unfold fam
    split <;> first | (exfalso; simp_all; done) | rfl
theorem dc_new {w : World} {x : ByteArray} {m : Md} {i j : Nat} {v vj : Value} {u : World} (h : RC w x m j vj u) (hn : ∀ b, v.ownBlock = some b → u.heap.size ≤ b) : DC i j v vj := fun _ hj _ g hg hg' => by
  have h1 := hn g hg
  have h2 := h.lt hj hg'
  omega
theorem dc_off {i j : Nat} {v vj : Value} (h : fam i = 0) : DC i j v vj := fun h1 => absurd h h1
/-- what an append onto an empty row leaves -/
theorem dc_onto {w : World} {x : ByteArray} {m : Md} {i j k : Nat} {v v0 vj : Value} {u : World} (h : RC w x m j vj u) (hik : fam i = fam k) (hn : v = v0 ∨ ∀ b, v.ownBlock = some b → u.heap.size ≤ b) (hk : k ≠ j → DC k j v0 vj) : DC i j v vj := by
  rcases hn with rfl | hn
  · intro h1 h2 h3
    rw [hik] at h1 h3
    exact hk (fun e => h3 (by rw [e])) h1 h2 h3
  · exact dc_new h hn
theorem RC.belowS {w : World} {x : ByteArray} {m : Md} {j : Nat} {v : Value} {u u' : World} (h : RC w x m j v u) (hb : Below u.heap.size u u') : RC w x m j v u' :=
  h.keep (fun g _ hg => hb.block g hg) (fun _ cs hc => hc.belowS hb)
theorem readsN {G : Nat → Prop} {w : World} {n c : Nat} {xs : List Value} (h : Reads G w (.slice none n c) xs) : c = 0 := by
  obtain ⟨a', cap, e, _, _, h3, _⟩ := h
  simp only [Value.slice.injEq] at e
  obtain ⟨rfl, _, rfl⟩ := e
  exact h3 rfl
theorem readsRN {G : Nat → Prop} {w : World} {n c : Nat} {l : List Rl} (h : ReadsR G w (.slice none n c) l) : c = 0 := by
  obtain ⟨a', cap, e, _, _, h3, _⟩ := h
  simp only [Value.slice.injEq] at e
  obtain ⟨rfl, _, rfl⟩ := e
  exact h3 rfl
theorem readsC {B : Nat} {w : World} {p : Addr} {n c : Nat} {xs : List Value} (h : Reads (· < B) w (.slice (some p) n c) xs) : ∀ j u, xs[j]? = some u → w.cell? (p.add j) = some u := by
  obtain ⟨a', cap, e, h1, h2, h3, h4⟩ := h
  simp only [Value.slice.injEq] at e
  obtain ⟨rfl, rfl, rfl⟩ := e
  intro j u hj
  have hlt := (List.getElem?_eq_some_iff.1 hj).1
  rcases h4 with h4 | ⟨g, off, ea, hg, hc⟩
  · rw [h4] at hj; simp at hj
  · obtain rfl := Option.some.inj ea
    rw [Addr.add_lit, hc j hlt, hj]
/-- an append onto an empty row -/
theorem onto_owns {t ty e : TypeId} {size bytes : Nat} {z : Value} (hi5 : (Tryz.prog.info? e).map (fun i => (i.zero, i.size, i.bytes)) = some (some z, size, bytes)) (ht : Tryz.prog.underlying t = some (.slice e)) (hzs : z.cells.size = size) (hsz : 0 < size) {u : World} {B g : Nat} (hB : B ≤ u.heap.size) (ho : u.ownsRow B e size (.slice (some ⟨g, 0, none⟩) 0 0) 0 []) {a : Option Addr} {n c : Nat} {ys : List Value} (hl : ys.length = n * size) (hc0 : a = none → n = 0 ∧ c = 0) (hc : ∀ p, a = some p → ∀ j x, ys[j]? = some x → u.cell? (p.add j) = some x) (h1 : ∀ x ∈ ys, x.oneCell' = true) (hm : n ≤ maxLen) (hb : n * bytes ≤ 140737488355328) :
    ∃ v' u', (Builtin.append_ #[t, t] ty #[.slice (some ⟨g, 0, none⟩) 0 0, .slice a n c]).run Tryz.prog u = .ok v' u' ∧ Below u.heap.size u u' ∧ u'.ownsRow B e size v' n ys ∧ (v' = .slice (some ⟨g, 0, none⟩) 0 0 ∨ ∀ b, v'.ownBlock = some b → u.heap.size ≤ b) := by
  cases a with
  | none =>
    obtain ⟨rfl, rfl⟩ := hc0 rfl
    obtain rfl : ys = [] := List.length_eq_zero_iff.1 (by omega)
    exact ⟨_, u, run_onto_nil hi5 ht u g 0, Below.refl _ _, ho, Or.inl rfl⟩
  | some p =>
    obtain ⟨v', u', hr, hbl, hh⟩ := run_onto_none (ty := ty) hi5 ht hzs hsz u g p n c ys hl (hc p rfl) h1 hm hb
    rcases hh with ⟨rfl, rfl⟩ | ⟨_, hh⟩
    · obtain rfl : ys = [] := List.length_eq_zero_iff.1 (by omega)
      exact ⟨_, u', hr, hbl, owns_below ho hbl, Or.inl rfl⟩
    · exact ⟨v', u', hr, hbl, owns_base hh hB, Or.inr fun b hb' => (owns_lt hh hb').1⟩
theorem reads_src {B : Nat} {u : World} {a : Option Addr} {n c : Nat} {xs : List Value} (h : Reads (· < B) u (.slice a n c) xs) : xs.length = n * 1 ∧ (a = none → n = 0 ∧ c = 0) ∧ (∀ p, a = some p → ∀ j x, xs[j]? = some x → u.cell? (p.add j) = some x) ∧ n ≤ maxLen := by
  obtain ⟨n1, m1, m2⟩ := reads_len h
  refine ⟨by omega, fun e => ?_, fun p e => ?_, by omega⟩
  · subst e
    have := readsN h
    omega
  · subst e
    exact readsC h
theorem readsR_src {B : Nat} {u : World} {a : Option Addr} {n c : Nat} {l : List Rl} (h : ReadsR (· < B) u (.slice a n c) l) : (relC l).length = n * 3 ∧ (a = none → n = 0 ∧ c = 0) ∧ (∀ p, a = some p → ∀ j x, (relC l)[j]? = some x → u.cell? (p.add j) = some x) ∧ n ≤ maxLen := by
  obtain ⟨n1, m1, m2⟩ := h.len
  refine ⟨by rw [relC_len]; omega, fun e => ?_, fun p e => ?_, by omega⟩
  · subst e
    have := readsRN h
    omega
  · subst e
    exact h.cells
section
variable {w : World} {ea : Option Addr} {en ec : Nat} {ia : Option Addr} {im ic : Nat} {ca : Option Addr} {cn cc : Nat} {da : Option Addr} {dn dc : Nat} {ra : Option Addr} {rn rc : Nat} {m : Md}
theorem refCopyO_any (h : RdM (· < w.heap.size) w ea en ec ia im ic ca cn cc da dn dc ra rn rc m) (hl : en ≤ 65536 ∧ im ≤ 65536 ∧ cn ≤ 65536 ∧ dn ≤ 65536 ∧ rn ≤ 65536) :
    Calls Tryz.prog 6 #[mV (bs m.name) ea en ec ia im ic ca cn cc da dn dc ra rn rc] w fun e w' => ∃ ea2 en2 ec2 ia2 im2 ic2 ca2 cn2 cc2 da2 dn2 dc2 ra2 rn2 rc2, e = .returned (mV (bs m.name) ea2 en2 ec2 ia2 im2 ic2 ca2 cn2 cc2 da2 dn2 dc2 ra2 rn2 rc2) ∧ OwnD w.heap.size m w' ea2 en2 ec2 ia2 im2 ic2 ca2 cn2 cc2 da2 dn2 dc2 ra2 rn2 rc2 ∧ Below w.heap.size w w' := by
  obtain ⟨hl1, hl2, hl3, hl4, hl5⟩ := hl
  have H := Lib.hid h
  obtain ⟨L1, L2, L3, L4, L5⟩ := h.lens
  have HL := Lib.hid (And.intro L1 (And.intro L2 (And.intro L3 (And.intro L4 L5))))
  clear L1 L2 L3 L4 L5
  have J0 := Lib.hid (CJ.new w (mCs (bs m.name) ea en ec ia im ic ca cn cc da dn dc ra rn rc))
  clear h
  generalize bs m.name = x at *
  go_enter Tryz.func6, Tryz.ntmps6
  go_upto_region 1 with fail
  generalize (w.alloc (.cells (mCs x ea en ec ia im ic ca cn cc da dn dc ra rn rc) 26)).alloc (.cells zCs 26) = W0 at *
  have J1 := Lib.hid (KJ.of (J0.out.belowS (Below.refl _ _).drew))
  have SX : MC w.heap.size x ea en ec ia im ic ca cn cc da dn dc ra rn rc W0.drew := mod_cells J1.out.X
  refine wp_region_held_drew (S := fun u => MC w.heap.size x ea en ec ia im ic ca cn cc da dn dc ra rn rc u) (by kernel_rfl) SX (fun hHeld => ?_)
  refine wpAnyH_take (i := 0) (v := ?tkv1) rfl (by kernel_rfl) (by kernel_rfl) (by kernel_rfl) (fun _ _ _ h => h) (Or.inl ⟨by rfl, ?tky1⟩) (by assumption) ?tkr1
  case tky1 =>
    intro u hSu
    obtain ⟨s0, s1, s2, s3, s4, s5⟩ := hSu
    go_simp
    try with_reducible rfl
  try simp only [Act.put, List.getElem_toArray, List.getElem_cons_succ, List.getElem_cons_zero, List.setIfInBounds_toArray, List.set_cons_zero, List.set_cons_succ]
  refine wpAnyH_take (i := 1) (v := ?tkv2) rfl (by kernel_rfl) (by kernel_rfl) (by kernel_rfl) (fun _ _ _ h => h) (Or.inl ⟨by rfl, ?tky2⟩) (by assumption) ?tkr2
  case tky2 =>
    intro u hSu
    obtain ⟨s0, s1, s2, s3, s4, s5⟩ := hSu
    go_simp
    try with_reducible rfl
  try simp only [Act.put, List.getElem_toArray, List.getElem_cons_succ, List.getElem_cons_zero, List.setIfInBounds_toArray, List.set_cons_zero, List.set_cons_succ]
  refine wpAnyH_take (i := 3) (v := ?tkv3) rfl (by kernel_rfl) (by kernel_rfl) (by kernel_rfl) (fun _ _ _ h => h) (Or.inl ⟨by rfl, ?tky3⟩) (by assumption) ?tkr3
  case tky3 =>
    intro u hSu
    obtain ⟨s0, s1, s2, s3, s4, s5⟩ := hSu
    go_simp
    try with_reducible rfl
  try simp only [Act.put, List.getElem_toArray, List.getElem_cons_succ, List.getElem_cons_zero, List.setIfInBounds_toArray, List.set_cons_zero, List.set_cons_succ]
  refine wpAnyH_take (i := 4) (v := ?tkv4) rfl (by kernel_rfl) (by kernel_rfl) (by kernel_rfl) (fun _ _ _ h => h) (Or.inl ⟨by rfl, ?tky4⟩) (by assumption) ?tkr4
  case tky4 =>
    intro u hSu
    obtain ⟨s0, s1, s2, s3, s4, s5⟩ := hSu
    go_simp
    try with_reducible rfl
  try simp only [Act.put, List.getElem_toArray, List.getElem_cons_succ, List.getElem_cons_zero, List.setIfInBounds_toArray, List.set_cons_zero, List.set_cons_succ]
  refine wpAnyH_take (i := 7) (v := ?tkv5) rfl (by kernel_rfl) (by kernel_rfl) (by kernel_rfl) (fun _ _ _ h => h) (Or.inl ⟨by rfl, ?tky5⟩) (by assumption) ?tkr5
  case tky5 =>
    intro u hSu
    obtain ⟨s0, s1, s2, s3, s4, s5⟩ := hSu
    go_simp
    try with_reducible rfl
  try simp only [Act.put, List.getElem_toArray, List.getElem_cons_succ, List.getElem_cons_zero, List.setIfInBounds_toArray, List.set_cons_zero, List.set_cons_succ]
  refine wpAnyH_take (i := 8) (v := ?tkv6) rfl (by kernel_rfl) (by kernel_rfl) (by kernel_rfl) (fun _ _ _ h => h) (Or.inl ⟨by rfl, ?tky6⟩) (by assumption) ?tkr6
  case tky6 =>
    intro u hSu
    obtain ⟨s0, s1, s2, s3, s4, s5⟩ := hSu
    go_simp
    try with_reducible rfl
  try simp only [Act.put, List.getElem_toArray, List.getElem_cons_succ, List.getElem_cons_zero, List.setIfInBounds_toArray, List.set_cons_zero, List.set_cons_succ]
  refine wpAnyH_take (i := 11) (v := ?tkv7) rfl (by kernel_rfl) (by kernel_rfl) (by kernel_rfl) (fun _ _ _ h => h) (Or.inl ⟨by rfl, ?tky7⟩) (by assumption) ?tkr7
  case tky7 =>
    intro u hSu
    obtain ⟨s0, s1, s2, s3, s4, s5⟩ := hSu
    go_simp
    try with_reducible rfl
  try simp only [Act.put, List.getElem_toArray, List.getElem_cons_succ, List.getElem_cons_zero, List.setIfInBounds_toArray, List.set_cons_zero, List.set_cons_succ]
  refine wpAnyH_take (i := 12) (v := ?tkv8) rfl (by kernel_rfl) (by kernel_rfl) (by kernel_rfl) (fun _ _ _ h => h) (Or.inl ⟨by rfl, ?tky8⟩) (by assumption) ?tkr8
  case tky8 =>
    intro u hSu
    obtain ⟨s0, s1, s2, s3, s4, s5⟩ := hSu
    go_simp
    try with_reducible rfl
  try simp only [Act.put, List.getElem_toArray, List.getElem_cons_succ, List.getElem_cons_zero, List.setIfInBounds_toArray, List.set_cons_zero, List.set_cons_succ]
  refine wpAnyH_take (i := 15) (v := ?tkv9) rfl (by kernel_rfl) (by kernel_rfl) (by kernel_rfl) (fun _ _ _ h => h) (Or.inl ⟨by rfl, ?tky9⟩) (by assumption) ?tkr9
  case tky9 =>
    intro u hSu
    obtain ⟨s0, s1, s2, s3, s4, s5⟩ := hSu
    go_simp
    try with_reducible rfl
  try simp only [Act.put, List.getElem_toArray, List.getElem_cons_succ, List.getElem_cons_zero, List.setIfInBounds_toArray, List.set_cons_zero, List.set_cons_succ]
  refine wpAnyH_take (i := 16) (v := ?tkv10) rfl (by kernel_rfl) (by kernel_rfl) (by kernel_rfl) (fun _ _ _ h => h) (Or.inl ⟨by rfl, ?tky10⟩) (by assumption) ?tkr10
  case tky10 =>
    intro u hSu
    obtain ⟨s0, s1, s2, s3, s4, s5⟩ := hSu
    go_simp
    try with_reducible rfl
  try simp only [Act.put, List.getElem_toArray, List.getElem_cons_succ, List.getElem_cons_zero, List.setIfInBounds_toArray, List.set_cons_zero, List.set_cons_succ]
  refine wpAnyH_take (i := 19) (v := ?tkv11) rfl (by kernel_rfl) (by kernel_rfl) (by kernel_rfl) (fun _ _ _ h => h) (Or.inl ⟨by rfl, ?tky11⟩) (by assumption) ?tkr11
  case tky11 =>
    intro u hSu
    obtain ⟨s0, s1, s2, s3, s4, s5⟩ := hSu
    go_simp
    try with_reducible rfl
  try simp only [Act.put, List.getElem_toArray, List.getElem_cons_succ, List.getElem_cons_zero, List.setIfInBounds_toArray, List.set_cons_zero, List.set_cons_succ]
  refine wpAnyH_take (i := 20) (v := ?tkv12) rfl (by kernel_rfl) (by kernel_rfl) (by kernel_rfl) (fun _ _ _ h => h) (Or.inl ⟨by rfl, ?tky12⟩) (by assumption) ?tkr12
  case tky12 =>
    intro u hSu
    obtain ⟨s0, s1, s2, s3, s4, s5⟩ := hSu
    go_simp
    try with_reducible rfl
  try simp only [Act.put, List.getElem_toArray, List.getElem_cons_succ, List.getElem_cons_zero, List.setIfInBounds_toArray, List.set_cons_zero, List.set_cons_succ]
  refine PO.wpAnyH_pairs (RC w x m) (KJ w (mCs x ea en ec ia im ic ca cn cc da dn dc ra rn rc)) DC DC.symm [2, 5, 6, 9, 10, 13, 14, 17, 18, 21, 22, 23] (by kernel_rfl) (by kernel_rfl) (by kernel_rfl) J1.out (fun u hu => mod_cells hu.X) ?step ?done
  case step =>
    refine PO.Steps2.cons rfl (fun a u hJ hout hR hP K hK => ?s2) ?_
    case s2 =>
      clear hout hR hP
      go_simp
      exact hK.out _ _ (hJ.belowS (below_new u _)) (fun _ _ _ h => h.belowS (below_new u _)) ⟨u.heap.size, rfl, World.ownsRow_lit u #[] 0 hJ.sz (by simp [maxLen]) (by simp)⟩ (fun j vj _ hj _ => dc_new hj (fun b hb => by simp [PO.valBy, Value.ownBlock] at hb; omega))
    refine PO.Steps2.cons rfl (fun a u hJ hout hR hP K hK => ?s5) ?_
    case s5 =>
      obtain ⟨g, r0, ho0⟩ := (show ∃ g, a.eval (.tmp 5) = .slice (some ⟨g, 0, none⟩) 0 0 ∧ u.ownsRow (w.heap.size + 2) 9 1 (a.eval (.tmp 5)) 0 [] from hR 2 (by kernel_rfl))
      rw [r0] at ho0
      have o0 : a.eval (.tmp 7) = .slice ea en ec := hout 7 (by kernel_rfl)
      obtain ⟨q1, q2, q3, q4⟩ := reads_src (H.out.ex.below hJ.B)
      obtain ⟨v', u', hr, hb, ho, hn⟩ := onto_owns (ty := 22) infoStr Tryz.underlying22 rfl (by decide) hJ.sz ho0 q1 q2 q3 (strs_one _) q4 (by omega)
      rw [← HL.out.1] at ho
      exact Lib.wp_append_run _ _ _ _ _ rfl _ _ r0 o0 _ _ hr (hK.out _ _ (hJ.belowS hb) (fun _ _ _ h => h.belowS hb) ho (fun j vj _ hj hk => dc_onto (k := 2) hj rfl hn (fun hne => by rw [← r0]; exact hk 2 (by kernel_rfl) hne)))
    refine PO.Steps2.cons rfl (fun a u hJ hout hR hP K hK => ?s6) ?_
    case s6 =>
      clear hout hR hP
      go_simp
      exact hK.out _ _ (hJ.belowS (below_new u _)) (fun _ _ _ h => h.belowS (below_new u _)) ⟨u.heap.size, rfl, World.ownsRow_lit u #[] 0 hJ.sz (by simp [maxLen]) (by simp)⟩ (fun j vj _ hj _ => dc_new hj (fun b hb => by simp [PO.valBy, Value.ownBlock] at hb; omega))
    refine PO.Steps2.cons rfl (fun a u hJ hout hR hP K hK => ?s9) ?_
    case s9 =>
      obtain ⟨g, r0, ho0⟩ := (show ∃ g, a.eval (.tmp 9) = .slice (some ⟨g, 0, none⟩) 0 0 ∧ u.ownsRow (w.heap.size + 2) 9 1 (a.eval (.tmp 9)) 0 [] from hR 6 (by kernel_rfl))
      rw [r0] at ho0
      have o0 : a.eval (.tmp 11) = .slice ia im ic := hout 11 (by kernel_rfl)
      obtain ⟨q1, q2, q3, q4⟩ := reads_src (H.out.im.below hJ.B)
      obtain ⟨v', u', hr, hb, ho, hn⟩ := onto_owns (ty := 22) infoStr Tryz.underlying22 rfl (by decide) hJ.sz ho0 q1 q2 q3 (strs_one _) q4 (by omega)
      rw [← HL.out.2.1] at ho
      exact Lib.wp_append_run _ _ _ _ _ rfl _ _ r0 o0 _ _ hr (hK.out _ _ (hJ.belowS hb) (fun _ _ _ h => h.belowS hb) ho (fun j vj _ hj hk => dc_onto (k := 6) hj rfl hn (fun hne => by rw [← r0]; exact hk 6 (by kernel_rfl) hne)))
    refine PO.Steps2.cons rfl (fun a u hJ hout hR hP K hK => ?s10) ?_
    case s10 =>
      clear hout hR hP
      go_simp
      exact hK.out _ _ (hJ.belowS (below_new u _)) (fun _ _ _ h => h.belowS (below_new u _)) ⟨u.heap.size, rfl, World.ownsRow_lit u #[] 0 hJ.sz (by simp [maxLen]) (by simp)⟩ (fun j vj _ hj _ => dc_new hj (fun b hb => by simp [PO.valBy, Value.ownBlock] at hb; omega))
    refine PO.Steps2.cons rfl (fun a u hJ hout hR hP K hK => ?s13) ?_
    case s13 =>
      obtain ⟨g, r0, ho0⟩ := (show ∃ g, a.eval (.tmp 13) = .slice (some ⟨g, 0, none⟩) 0 0 ∧ u.ownsRow (w.heap.size + 2) 40 1 (a.eval (.tmp 13)) 0 [] from hR 10 (by kernel_rfl))
      rw [r0] at ho0
      have o0 : a.eval (.tmp 15) = .slice ca cn cc := hout 15 (by kernel_rfl)
      obtain ⟨q1, q2, q3, q4⟩ := reads_src (H.out.cd.below hJ.B)
      obtain ⟨v', u', hr, hb, ho, hn⟩ := onto_owns (ty := 23) infoWord Tryz.underlying23 rfl (by decide) hJ.sz ho0 q1 q2 q3 (u32s_one _) q4 (by omega)
      rw [← HL.out.2.2.1] at ho
      exact Lib.wp_append_run _ _ _ _ _ rfl _ _ r0 o0 _ _ hr (hK.out _ _ (hJ.belowS hb) (fun _ _ _ h => h.belowS hb) ho (fun j vj _ hj hk => dc_onto (k := 10) hj rfl hn (fun hne => by rw [← r0]; exact hk 10 (by kernel_rfl) hne)))
    refine PO.Steps2.cons rfl (fun a u hJ hout hR hP K hK => ?s14) ?_
    case s14 =>
      clear hout hR hP
      go_simp
      exact hK.out _ _ (hJ.belowS (below_new u _)) (fun _ _ _ h => h.belowS (below_new u _)) ⟨u.heap.size, rfl, World.ownsRow_lit u #[] 0 hJ.sz (by simp [maxLen]) (by simp)⟩ (fun j vj _ hj _ => dc_new hj (fun b hb => by simp [PO.valBy, Value.ownBlock] at hb; omega))
    refine PO.Steps2.cons rfl (fun a u hJ hout hR hP K hK => ?s17) ?_
    case s17 =>
      obtain ⟨g, r0, ho0⟩ := (show ∃ g, a.eval (.tmp 17) = .slice (some ⟨g, 0, none⟩) 0 0 ∧ u.ownsRow (w.heap.size + 2) 40 1 (a.eval (.tmp 17)) 0 [] from hR 14 (by kernel_rfl))
      rw [r0] at ho0
      have o0 : a.eval (.tmp 19) = .slice da dn dc := hout 19 (by kernel_rfl)
      obtain ⟨q1, q2, q3, q4⟩ := reads_src (H.out.dt.below hJ.B)
      obtain ⟨v', u', hr, hb, ho, hn⟩ := onto_owns (ty := 23) infoWord Tryz.underlying23 rfl (by decide) hJ.sz ho0 q1 q2 q3 (u32s_one _) q4 (by omega)
      rw [← HL.out.2.2.2.1] at ho
      exact Lib.wp_append_run _ _ _ _ _ rfl _ _ r0 o0 _ _ hr (hK.out _ _ (hJ.belowS hb) (fun _ _ _ h => h.belowS hb) ho (fun j vj _ hj hk => dc_onto (k := 14) hj rfl hn (fun hne => by rw [← r0]; exact hk 14 (by kernel_rfl) hne)))
    refine PO.Steps2.cons rfl (fun a u hJ hout hR hP K hK => ?s18) ?_
    case s18 =>
      clear hout hR hP
      go_simp
      exact hK.out _ _ (hJ.belowS (below_new u _)) (fun _ _ _ h => h.belowS (below_new u _)) ⟨u.heap.size, rfl, World.ownsRow_lit u #[] 0 hJ.sz (by simp [maxLen]) (by simp)⟩ (fun j vj _ hj _ => dc_new hj (fun b hb => by simp [PO.valBy, Value.ownBlock] at hb; omega))
    refine PO.Steps2.cons rfl (fun a u hJ hout hR hP K hK => ?s21) ?_
    case s21 =>
      obtain ⟨g, r0, ho0⟩ := (show ∃ g, a.eval (.tmp 21) = .slice (some ⟨g, 0, none⟩) 0 0 ∧ u.ownsRow (w.heap.size + 2) 47 3 (a.eval (.tmp 21)) 0 [] from hR 18 (by kernel_rfl))
      rw [r0] at ho0
      have o0 : a.eval (.tmp 23) = .slice ra rn rc := hout 23 (by kernel_rfl)
      obtain ⟨q1, q2, q3, q4⟩ := readsR_src (H.out.rl.below hJ.B)
      obtain ⟨v', u', hr, hb, ho, hn⟩ := onto_owns (ty := 24) infoRel Tryz.underlying24 rfl (by decide) hJ.sz ho0 q1 q2 q3 (relC_one _) q4 (by omega)
      rw [← HL.out.2.2.2.2] at ho
      exact Lib.wp_append_run _ _ _ _ _ rfl _ _ r0 o0 _ _ hr (hK.out _ _ (hJ.belowS hb) (fun _ _ _ h => h.belowS hb) ho (fun j vj _ hj hk => dc_onto (k := 18) hj rfl hn (fun hne => by rw [← r0]; exact hk 18 (by kernel_rfl) hne)))
    refine PO.Steps2.cons rfl (fun a u hJ hout hR hP K hK => ?s22) ?_
    case s22 =>
      have o4 : a.tmps.getD 4 undef = .string x := hout 4 (by kernel_rfl)
      have p1 : ∀ g, (a.tmps.getD 8 undef).ownBlock = some g → (a.tmps.getD 12 undef).ownBlock ≠ some g := hP 5 9 (by kernel_rfl) (by kernel_rfl) (by decide) (by decide) (by decide) (by decide)
      have p2 : ∀ g, (a.tmps.getD 16 undef).ownBlock = some g → (a.tmps.getD 20 undef).ownBlock ≠ some g := hP 13 17 (by kernel_rfl) (by kernel_rfl) (by decide) (by decide) (by decide) (by decide)
      have r8 : u.ownsRow (w.heap.size + 2) 9 1 (a.tmps.getD 8 undef) m.exps.length (strs m.exps) := hR 5 (by kernel_rfl)
      obtain ⟨a8, c8, e8⟩ := owns_form r8
      rw [e8] at r8 p1
      have r12 : u.ownsRow (w.heap.size + 2) 9 1 (a.tmps.getD 12 undef) m.imps.length (strs m.imps) := hR 9 (by kernel_rfl)
      obtain ⟨a12, c12, e12⟩ := owns_form r12
      rw [e12] at r12 p1
      have r16 : u.ownsRow (w.heap.size + 2) 40 1 (a.tmps.getD 16 undef) m.code.length (u32s m.code) := hR 13 (by kernel_rfl)
      obtain ⟨a16, c16, e16⟩ := owns_form r16
      rw [e16] at r16 p2
      have r20 : u.ownsRow (w.heap.size + 2) 40 1 (a.tmps.getD 20 undef) m.data.length (u32s m.data) := hR 17 (by kernel_rfl)
      obtain ⟨a20, c20, e20⟩ := owns_form r20
      rw [e20] at r20 p2
      have r24 : u.ownsRow (w.heap.size + 2) 47 3 (a.tmps.getD 24 undef) m.rels.length (relC m.rels) := hR 21 (by kernel_rfl)
      obtain ⟨a24, c24, e24⟩ := owns_form r24
      rw [e24] at r24
      simp only [Array.getD_eq_getD_getElem?] at o4 e8 e12 e16 e20 e24
      clear hout hR hP
      go_simp
      exact hK.out _ _ hJ (fun _ _ _ h => h) ⟨_, _, _, _, _, _, _, _, _, _, _, _, _, _, _, rfl, ⟨⟨r8, r12, r16, r20, r24⟩, p1, p2⟩⟩ (fun _ _ _ _ _ => dc_off rfl)
    refine PO.Steps2.cons rfl (fun a u hJ hout hR hP K hK => ?s23) PO.Steps2.nil
    case s23 =>
      have o2 : a.tmps.getD 2 undef = .pointer (some ⟨w.heap.size + 1, 0, none⟩) := hout 2 (by kernel_rfl)
      obtain ⟨ea2, en2, ec2, ia2, im2, ic2, ca2, cn2, cc2, da2, dn2, dc2, ra2, rn2, rc2, e25, hrd⟩ := (show ∃ ea en ec ia im ic ca cn cc da dn dc ra rn rc, a.tmps.getD 25 undef = mV x ea en ec ia im ic ca cn cc da dn dc ra rn rc ∧ OwnD (w.heap.size + 2) m u ea en ec ia im ic ca cn cc da dn dc ra rn rc from hR 22 (by kernel_rfl))
      simp only [Array.getD_eq_getD_getElem?] at o2 e25
      obtain ⟨y0, y1, y2, y3, y4, y5, hY⟩ := hJ.Y
      have c0 := hY.cell 0
      have c1 := hY.cell 1
      have c2 := hY.cell 2
      have c3 := hY.cell 3
      have c4 := hY.cell 4
      have c5 := hY.cell 5
      simp at c0 c1 c2 c3 c4 c5
      have f0 := hY.frozen 0
      have f1 := hY.frozen 1
      have f2 := hY.frozen 2
      have f3 := hY.frozen 3
      have f4 := hY.frozen 4
      have f5 := hY.frozen 5
      have hJh := Lib.hid hJ
      have hYh := Lib.hid hY
      have hrdh := Lib.hid hrd
      clear hout hR hP hJ hY hrd
      go_simp
      have FY : Whole ((((((u.setCell ⟨w.heap.size + 1, 0, none⟩ (.string x)).setCell ⟨w.heap.size + 1, 1, none⟩ (.slice ea2 en2 ec2)).setCell ⟨w.heap.size + 1, 2, none⟩ (.slice ia2 im2 ic2)).setCell ⟨w.heap.size + 1, 3, none⟩ (.slice ca2 cn2 cc2)).setCell ⟨w.heap.size + 1, 4, none⟩ (.slice da2 dn2 dc2)).setCell ⟨w.heap.size + 1, 5, none⟩ (.slice ra2 rn2 rc2)) (w.heap.size + 1) 26 (mCs x ea2 en2 ec2 ia2 im2 ic2 ca2 cn2 cc2 da2 dn2 dc2 ra2 rn2 rc2) := ((((((hYh.out.set_ 0 (.string x)).set_ 1 (.slice ea2 en2 ec2)).set_ 2 (.slice ia2 im2 ic2)).set_ 3 (.slice ca2 cn2 cc2)).set_ 4 (.slice da2 dn2 dc2)).set_ 5 (.slice ra2 rn2 rc2))
      have FX : Whole ((((((u.setCell ⟨w.heap.size + 1, 0, none⟩ (.string x)).setCell ⟨w.heap.size + 1, 1, none⟩ (.slice ea2 en2 ec2)).setCell ⟨w.heap.size + 1, 2, none⟩ (.slice ia2 im2 ic2)).setCell ⟨w.heap.size + 1, 3, none⟩ (.slice ca2 cn2 cc2)).setCell ⟨w.heap.size + 1, 4, none⟩ (.slice da2 dn2 dc2)).setCell ⟨w.heap.size + 1, 5, none⟩ (.slice ra2 rn2 rc2)) w.heap.size 26 (mCs x ea en ec ia im ic ca cn cc da dn dc ra rn rc) := ((((((hJh.out.X.far (p := ⟨w.heap.size + 1, 0, none⟩) (by simp) (.string x)).far (p := ⟨w.heap.size + 1, 1, none⟩) (by simp) (.slice ea2 en2 ec2)).far (p := ⟨w.heap.size + 1, 2, none⟩) (by simp) (.slice ia2 im2 ic2)).far (p := ⟨w.heap.size + 1, 3, none⟩) (by simp) (.slice ca2 cn2 cc2)).far (p := ⟨w.heap.size + 1, 4, none⟩) (by simp) (.slice da2 dn2 dc2)).far (p := ⟨w.heap.size + 1, 5, none⟩) (by simp) (.slice ra2 rn2 rc2))
      have FB : Below w.heap.size w ((((((u.setCell ⟨w.heap.size + 1, 0, none⟩ (.string x)).setCell ⟨w.heap.size + 1, 1, none⟩ (.slice ea2 en2 ec2)).setCell ⟨w.heap.size + 1, 2, none⟩ (.slice ia2 im2 ic2)).setCell ⟨w.heap.size + 1, 3, none⟩ (.slice ca2 cn2 cc2)).setCell ⟨w.heap.size + 1, 4, none⟩ (.slice da2 dn2 dc2)).setCell ⟨w.heap.size + 1, 5, none⟩ (.slice ra2 rn2 rc2)) := ((((((hJh.out.B.setCell (p := ⟨w.heap.size + 1, 0, none⟩) (by simp) (.string x)).setCell (p := ⟨w.heap.size + 1, 1, none⟩) (by simp) (.slice ea2 en2 ec2)).setCell (p := ⟨w.heap.size + 1, 2, none⟩) (by simp) (.slice ia2 im2 ic2)).setCell (p := ⟨w.heap.size + 1, 3, none⟩) (by simp) (.slice ca2 cn2 cc2)).setCell (p := ⟨w.heap.size + 1, 4, none⟩) (by simp) (.slice da2 dn2 dc2)).setCell (p := ⟨w.heap.size + 1, 5, none⟩) (by simp) (.slice ra2 rn2 rc2))
      have FS : ((((((u.setCell ⟨w.heap.size + 1, 0, none⟩ (.string x)).setCell ⟨w.heap.size + 1, 1, none⟩ (.slice ea2 en2 ec2)).setCell ⟨w.heap.size + 1, 2, none⟩ (.slice ia2 im2 ic2)).setCell ⟨w.heap.size + 1, 3, none⟩ (.slice ca2 cn2 cc2)).setCell ⟨w.heap.size + 1, 4, none⟩ (.slice da2 dn2 dc2)).setCell ⟨w.heap.size + 1, 5, none⟩ (.slice ra2 rn2 rc2)).heap.size = u.heap.size := by simp
      have FK : ∀ g, onTwo w g → g < u.heap.size → ((((((u.setCell ⟨w.heap.size + 1, 0, none⟩ (.string x)).setCell ⟨w.heap.size + 1, 1, none⟩ (.slice ea2 en2 ec2)).setCell ⟨w.heap.size + 1, 2, none⟩ (.slice ia2 im2 ic2)).setCell ⟨w.heap.size + 1, 3, none⟩ (.slice ca2 cn2 cc2)).setCell ⟨w.heap.size + 1, 4, none⟩ (.slice da2 dn2 dc2)).setCell ⟨w.heap.size + 1, 5, none⟩ (.slice ra2 rn2 rc2)).heap[g]? = u.heap[g]? := fun g hg _ => by
        have hne : g ≠ w.heap.size + 1 := by have : w.heap.size + 2 ≤ g := hg; omega
        rw [Below.heap_setCell _ _ _ _ hne, Below.heap_setCell _ _ _ _ hne, Below.heap_setCell _ _ _ _ hne, Below.heap_setCell _ _ _ _ hne, Below.heap_setCell _ _ _ _ hne, Below.heap_setCell _ _ _ _ hne]
      generalize ((((((u.setCell ⟨w.heap.size + 1, 0, none⟩ (.string x)).setCell ⟨w.heap.size + 1, 1, none⟩ (.slice ea2 en2 ec2)).setCell ⟨w.heap.size + 1, 2, none⟩ (.slice ia2 im2 ic2)).setCell ⟨w.heap.size + 1, 3, none⟩ (.slice ca2 cn2 cc2)).setCell ⟨w.heap.size + 1, 4, none⟩ (.slice da2 dn2 dc2)).setCell ⟨w.heap.size + 1, 5, none⟩ (.slice ra2 rn2 rc2)) = U at *
      exact hK.out undef _ ⟨FX, ⟨_, _, _, _, _, _, FY⟩, FB, by rw [FS]; exact hJh.out.sz⟩ (fun j v hj h => h.keep FK (fun e => absurd e hj)) ⟨_, _, _, _, _, _, _, _, _, _, _, _, _, _, _, FY, hrdh.out.keep FK⟩ (fun _ _ _ _ _ => dc_off rfl)
  case done =>
    intro a u hJ hout hsz hdf hR
    have o2 : a.tmps[2]? = some (.pointer (some ⟨w.heap.size + 1, 0, none⟩)) := hout 2 (by kernel_rfl)
    obtain ⟨ea2, en2, ec2, ia2, im2, ic2, ca2, cn2, cc2, da2, dn2, dc2, ra2, rn2, rc2, hY, hrd⟩ := (show ∃ ea en ec ia im ic ca cn cc da dn dc ra rn rc, Whole u (w.heap.size + 1) 26 (mCs x ea en ec ia im ic ca cn cc da dn dc ra rn rc) ∧ OwnD (w.heap.size + 2) m u ea en ec ia im ic ca cn cc da dn dc ra rn rc from hR 23 rfl)
    have hJh := Lib.hid hJ
    have hrd' := Lib.hid hrd
    clear hout hR hJ hrd hHeld SX
    go_wp2_with fail
    obtain ⟨g0, g1, g2, g3, g4, g5⟩ := mod_cells hY
    have R5 := hrd'.out
    exact bodyPost_ret (v := mV x ea2 en2 ec2 ia2 im2 ic2 ca2 cn2 cc2 da2 dn2 dc2 ra2 rn2 rc2) (by simp [results, Tryz.results6, go_sem, o2, g0, g1, g2, g3, g4, g5]) hdf ⟨_, _, _, _, _, _, _, _, _, _, _, _, _, _, _, rfl, ⟨⟨owns_base R5.own.ex (by omega), owns_base R5.own.im (by omega), owns_base R5.own.cd (by omega), owns_base R5.own.dt (by omega), owns_base R5.own.rl (by omega)⟩, R5.ei, R5.cd⟩, hJh.out.B⟩
end
end Go.Proofs.YtdfafllldanfiaaGreat.OR
