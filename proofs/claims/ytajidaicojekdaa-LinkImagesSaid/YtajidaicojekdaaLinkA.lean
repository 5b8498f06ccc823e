/-
  Joined texts: LinkMath, LinkRow, LinkRef, LinkImg. Nothing here is a statement of the seed.
-/
import Derived.Test.YtajidaicojekdaaValM
import Derived.Test.YtajidaicojekdaaLayA
import Derived.Test.YtajidaicojekdaaRelA
import Derived.Test.YtajidaicojekdaaObjK
import Derived.Test.YtajidaicojekdaaRelR
set_option linter.unusedSimpArgs false
set_option linter.unusedVariables false
/-
  Linked words as numbers: which relocation names a word, what it makes of it, a module's words one by one. Nothing of the program.
-/
namespace Go.Proofs.Ytajidaicojekdaa.KM
open OM VM YM RM

theorem inC_nat (k : Nat) : RM.inC (k : Int) = VM.inC k := by
  unfold RM.inC VM.inC
  rw [Bool.eq_iff_iff]
  simp
  omega
/-- does the k-th relocation name a word of code (of data), at this place? -/
def nmB (m : Md) (cd : Bool) (at_ : Int) (k : Nat) : Bool := decide (((rl m k).at_ : Int) = at_) && (VM.inC (rl m k).kind == cd) && decide ((rl m k).kind ≤ 7)
def hitB (m : Md) (i : Int) (k : Nat) : Bool := (spV m.code.length m.data.length i).2.2 && nmB m (spV m.code.length m.data.length i).1 (spV m.code.length m.data.length i).2.1 k
/-- the first that does; -1: none -/
def hit (m : Md) (i : Int) : Int := ff (hitB m i) m.rels.length
/-- a word with its address by the k-th relocation -/
def byE (m : Md) (c d : Int) (l : List Nat) (x : Int) (k : Nat) : Int :=
  if valE (rl m k).kind (rl m k).wh l ≠ 0 then valE (rl m k).kind (rl m k).wh l else apE x (rl m k).kind (valA (rl m k).kind (rl m k).wh c d l)
def byW (m : Md) (c d : Int) (l : List Nat) (x : Int) (k : Nat) : Int :=
  if valE (rl m k).kind (rl m k).wh l ≠ 0 then 0 else apW x (rl m k).kind (valA (rl m k).kind (rl m k).wh c d l)
def wrdE (m : Md) (c d : Int) (l : List Nat) (i : Int) : Int := if 0 ≤ hit m i then byE m c d l (rawV m.code m.data i : Nat) (hit m i).toNat else 0
def wrdW (m : Md) (c d : Int) (l : List Nat) (i : Int) : Int := if 0 ≤ hit m i then byW m c d l (rawV m.code m.data i : Nat) (hit m i).toNat else (rawV m.code m.data i : Nat)
/-- a module too long for an image -/
def lngB (m : Md) : Bool := decide (512 < m.code.length ∨ 128 < m.data.length ∨ 256 < m.rels.length)
def nW (m : Md) : Nat := 16 * (pgs m.code.length + pgs m.data.length)
/-- the first error among the words from k on -/
def errE (m : Md) (c d : Int) (l : List Nat) : Nat → Nat → Int
  | _, 0 => 0
  | k, n + 1 => if wrdE m c d l (k : Nat) ≠ 0 then wrdE m c d l (k : Nat) else errE m c d l (k + 1) n
def imgE (m : Md) (c d : Int) (l : List Nat) : Int := if lngB m then 5 else errE m c d l 0 (nW m)
def imgL (m : Md) (c d : Int) (l : List Nat) : List Nat := (List.range (nW m)).map fun i => (wrdW m c d l (i : Nat)).toNat

theorem ff_at {p : Nat → Bool} {n : Nat} (h : 0 ≤ ff p n) : ∃ k, ff p n = (k : Nat) ∧ k < n ∧ p k = true ∧ ∀ j, j < k → p j = false := by
  unfold ff at h ⊢
  cases e : (List.range n).find? p with
  | some i =>
    rw [List.find?_range_eq_some] at e
    exact ⟨i, rfl, by simpa using e.2.1, e.1, fun j hj => by simpa using e.2.2 j hj⟩
  | none => rw [e] at h; simp at h
theorem hit_none {m : Md} {i : Int} (h : ∀ k, k < m.rels.length → hitB m i k = false) : hit m i = -1 := ff_no h
theorem hit_some {m : Md} {i : Int} {k : Nat} (hk : k < m.rels.length) (h : hitB m i k = true) (hb : ∀ j, j < k → hitB m i j = false) : hit m i = k := ff_yes hk h hb
theorem valA_bd {k i c d : Int} {l : List Nat} (hl : ∀ x ∈ l, x < 4294967296) : 0 ≤ valA k i c d l ∧ valA k i c d l ≤ 4294967295 := by
  unfold valA
  split
  · omega
  · split
    · have h : l.getD i.toNat 0 < 4294967296 := by
        rw [List.getD_eq_getElem?_getD]
        by_cases hj : i.toNat < l.length
        · rw [List.getElem?_eq_getElem hj]; exact hl _ (List.getElem_mem hj)
        · rw [List.getElem?_eq_none (by omega)]; simp
      omega
    · split <;> omega
theorem apW_bd {x k v : Int} (hx : 0 ≤ x ∧ x ≤ 4294967295) (hv : 0 ≤ v ∧ v ≤ 4294967295) : 0 ≤ apW x k v ∧ apW x k v ≤ 4294967295 := by
  unfold apW
  split
  · rename_i h0
    split
    · rename_i hc
      unfold apE at h0
      split at h0
      · omega
      · rw [hc] at h0
        simp only [Bool.true_eq_false, if_false] at h0
        split at h0
        · omega
        · rename_i h1
          split at h0
          · omega
          · simp at h1
            exact put_bd hx h1.1 (by omega)
    · exact hv
  · omega
theorem rawV_lt {m : Md} (hf : FineM m) (i : Int) : rawV m.code m.data i < 4294967296 := by
  unfold rawV
  split
  · rename_i h
    rw [List.getD_eq_getElem?_getD, List.getElem?_eq_getElem (by omega)]
    exact hf.code _ (List.getElem_mem _)
  · split
    · rename_i h
      rw [List.getD_eq_getElem?_getD, List.getElem?_eq_getElem (by omega)]
      exact hf.data _ (List.getElem_mem _)
    · omega
theorem wrdW_bd {m : Md} (hf : FineM m) {c d : Int} {l : List Nat} (hl : ∀ x ∈ l, x < 4294967296) (i : Int) : 0 ≤ wrdW m c d l i ∧ wrdW m c d l i ≤ 4294967295 := by
  have hr := rawV_lt hf i
  unfold wrdW byW
  split
  · split
    · omega
    · exact apW_bd (by omega) (valA_bd hl)
  · omega
theorem errE_none {m : Md} {c d : Int} {l : List Nat} : ∀ (n k : Nat), errE m c d l k n = 0 ↔ ∀ j, j < n → wrdE m c d l ((k + j : Nat) : Int) = 0
  | 0, k => by simp [errE]
  | n + 1, k => by
    unfold errE
    by_cases h : wrdE m c d l (k : Nat) = 0
    · rw [if_neg (by simpa using h), errE_none n (k + 1)]
      constructor
      · intro hh j hj
        cases j with
        | zero => exact h
        | succ j => have := hh j (by omega); rwa [show k + 1 + j = k + (j + 1) by omega] at this
      · intro hh j hj
        have := hh (j + 1) (by omega)
        rwa [show k + (j + 1) = k + 1 + j by omega] at this
    · rw [if_pos h]
      constructor
      · intro hh; exact absurd hh h
      · intro hh; exact absurd (hh 0 (by omega)) h
theorem errE_step {m : Md} {c d : Int} {l : List Nat} {k n : Nat} (h : wrdE m c d l (k : Nat) = 0) : errE m c d l k (n + 1) = errE m c d l (k + 1) n := by
  show (if wrdE m c d l (k : Nat) ≠ 0 then _ else _) = _
  rw [if_neg (by simpa using h)]
theorem errE_stop {m : Md} {c d : Int} {l : List Nat} {k n : Nat} (h : wrdE m c d l (k : Nat) ≠ 0) : errE m c d l k (n + 1) = wrdE m c d l (k : Nat) := by
  show (if wrdE m c d l (k : Nat) ≠ 0 then _ else _) = _
  rw [if_pos h]
theorem imgL_len (m : Md) (c d : Int) (l : List Nat) : (imgL m c d l).length = nW m := by simp [imgL]
theorem imgL_at {m : Md} {c d : Int} {l : List Nat} {i : Nat} (h : i < nW m) : (imgL m c d l).getD i 0 = (wrdW m c d l (i : Nat)).toNat := by
  unfold imgL
  rw [List.getD_eq_getElem?_getD, List.getElem?_map, List.getElem?_range h]
  rfl
theorem nW_pages {m : Md} (h : lngB m = false) : 16 * pgP (pgs m.code.length : Nat) (pgs m.data.length : Nat) = (nW m : Nat) ∧ nW m ≤ 640 := by
  have h := of_decide_eq_false h
  have h1 : pgs m.code.length ≤ 32 := pgs_le (by omega)
  have h2 : pgs m.data.length ≤ 8 := pgs_le (by omega)
  rw [pgP_small (by omega) (by omega)]
  unfold nW
  omega
end Go.Proofs.Ytajidaicojekdaa.KM

/-
  A module's box and a place's, on the way of a call; what names a word, told of parts. Nothing here is a statement of the seed.
-/
namespace Go.Proofs.Ytajidaicojekdaa.KF
open Go.RowKit WM NR OM OR VM YM RM RF KM
open IF (bcell)

/-- a module's box and another one behind it -/
structure LJ (w : World) (cs ps : Array Value) (t : TypeId) (u : World) : Prop where
  X : Whole u w.heap.size 45 cs
  Y : Whole u (w.heap.size + 1) t ps
  B : Below w.heap.size w u
  sz : w.heap.size + 2 ≤ u.heap.size
theorem LJ.belowS {w u u' : World} {cs ps : Array Value} {t : TypeId} (h : LJ w cs ps t u) (hb : Below u.heap.size u u') : LJ w cs ps t u' := ⟨h.X.belowS hb, h.Y.belowS hb, h.B.trans (hb.mono h.B.size), Nat.le_trans h.sz hb.size⟩
theorem LJ.new (w : World) (cs ps : Array Value) (t : TypeId) : LJ w cs ps t ((w.alloc (.cells cs 45)).alloc (.cells ps t)) := by
  have h1 := below_new w (.cells cs 45)
  refine ⟨(Whole.new w _ _).alloc _, ?_, h1.alloc h1.size _, by simp⟩
  have h2 := Whole.new (w.alloc (.cells cs 45)) t ps
  simpa using h2
theorem LJ.alloc {w u : World} {cs ps : Array Value} {t : TypeId} (h : LJ w cs ps t u) (o : Obj) : LJ w cs ps t (u.alloc o) := h.belowS (below_new u o)
theorem pl_cells {w : World} {b : Nat} {t : TypeId} {x y : Value} (h : Whole w b t #[x, y]) : w.cell? ⟨b, 0, none⟩ = some x ∧ w.cell? ⟨b, 1, none⟩ = some y := ⟨h.cell 0, h.cell 1⟩
/-- the k-th relocation names the word, told by its parts -/
theorem nm_of {m : Md} {i : Int} {k rk rt rw : Nat} {cd : Bool} {a : Int} (hr : rl m k = ⟨rk, rt, rw⟩) (hs : spV m.code.length m.data.length i = (cd, a, true)) : hitB m i k = (decide ((rt : Int) = a) && (VM.inC rk == cd) && decide (rk ≤ 7)) := by
  unfold hitB nmB
  rw [hs, hr]
  rfl
theorem nm_not {m : Md} {i : Int} {cd : Bool} {a : Int} (hs : spV m.code.length m.data.length i = (cd, a, false)) : hit m i = -1 := by
  refine hit_none fun k _ => ?_
  unfold hitB
  rw [hs]
  rfl
theorem by_of {m : Md} {c d x : Int} {l : List Nat} {k rk rt rw : Nat} (hr : rl m k = ⟨rk, rt, rw⟩) : byE m c d l x k = (if valE rk rw l ≠ 0 then valE rk rw l else apE x rk (valA rk rw c d l)) ∧ byW m c d l x k = (if valE rk rw l ≠ 0 then 0 else apW x rk (valA rk rw c d l)) := by
  unfold byE byW
  rw [hr]
  exact ⟨rfl, rfl⟩
/-- what a word is, where no relocation names it, and where the k-th is the first one that does -/
theorem wrd_none {m : Md} {c d : Int} {l : List Nat} {i : Int} (h : hit m i = -1) : wrdW m c d l i = (rawV m.code m.data i : Nat) ∧ wrdE m c d l i = 0 := by
  unfold wrdW wrdE
  rw [h]
  exact ⟨rfl, rfl⟩
theorem wrd_some {m : Md} {c d : Int} {l : List Nat} {i : Int} {k : Nat} (h : hit m i = (k : Nat)) : wrdW m c d l i = byW m c d l (rawV m.code m.data i : Nat) k ∧ wrdE m c d l i = byE m c d l (rawV m.code m.data i : Nat) k := by
  unfold wrdW wrdE
  rw [h, if_pos (by omega), if_pos (by omega)]
  exact ⟨rfl, rfl⟩
end Go.Proofs.Ytajidaicojekdaa.KF

/-
  The reference's Word, call by call. Nothing here is a statement of the seed.
-/
namespace Go.Proofs.Ytajidaicojekdaa.KF
open Go.RowKit WM NR OM OR VM YM YR RM RF KM
set_option maxHeartbeats 4000000
set_option maxRecDepth 10000
theorem inCode_n (k : Nat) (hk : k < 256) (w : World) : Calls Try.prog 48 #[.int .u8 (k : Int)] w fun e w' => e = .returned (.bool (VM.inC k)) ∧ w = w' := by
  have h := inCode_any (k : Int) w (by omega)
  rw [inC_nat] at h
  exact h
section
variable {w : World} {ea : Option Addr} {en ec : Nat} {ia : Option Addr} {im ic : Nat} {ca : Option Addr} {cn cc : Nat} {da : Option Addr} {dn dc : Nat} {ra : Option Addr} {rn rc : Nat} {m : Md}
theorem refWord_any (h : RdM (· < w.heap.size) w ea en ec ia im ic ca cn cc da dn dc ra rn rc m) (hf : FineM m) (hl : cn * 4 ≤ 140737488355328 ∧ dn * 4 ≤ 140737488355328) (c d : Int) (hc : 0 ≤ c ∧ c ≤ 4294967295) (hd : 0 ≤ d ∧ d ≤ 4294967295)
    (l : List Nat) (v : Value) (R : Slots w v l) (hw : ∀ x ∈ l, x < 4294967296) (i : Int) (hi : -9223372036854775808 ≤ i ∧ i ≤ 9223372036854775807) :
    Calls Try.prog 18 #[mV (bs m.name) ea en ec ia im ic ca cn cc da dn dc ra rn rc, plV c d, v, .int .i64 i] w fun e w' => e = .returned (.tuple #[.int .u32 (wrdW m c d l i), .int .i64 (wrdE m c d l i)]) ∧ Below w.heap.size w w' := by
  obtain ⟨l1, l2, l3, l4, l5⟩ := h.lens
  have J0 := Lib.hid (LJ.new w (mCs (bs m.name) ea en ec ia im ic ca cn cc da dn dc ra rn rc) #[.int .u32 c, .int .u32 d] 56)
  have C1 := Lib.hid (fun (u : World) (hb : Below w.heap.size w u) => refRaw_any (h.go hb hb.size) hl i hi)
  have C2 := Lib.hid (fun (u : World) (hb : Below w.heap.size w u) => refSpot_any (h.go hb hb.size) hl i hi)
  have CV := Lib.hid (fun (u : World) (hb : Below w.heap.size w u) (k a j : Nat) (hk : k < 256) (hj : j < 65536) => refValue_any (k : Int) (a : Int) c d (j : Int) l v u (R.below hb) (by omega) hc hd (by omega))
  have HR := Lib.hid h.rl
  have HF := Lib.hid (fun (k : Nat) (hk : k < rn) => hf.rels _ (mem_getD (l := m.rels) (d := ⟨0, 0, 0⟩) (i := k) (by omega)))
  have HWN := Lib.hid (fun hh => wrd_none (m := m) (c := c) (d := d) (l := l) (i := i) hh)
  have HWS := Lib.hid (fun (k : Nat) hh => wrd_some (m := m) (c := c) (d := d) (l := l) (i := i) (k := k) hh)
  have hraw := rawV_lt hf i
  have CA := Lib.hid (fun (k : Nat) (hk : k < 256) (j : Nat) => refApply_any ((rawV m.code m.data i : Nat) : Int) (k : Int) (valA (k : Int) (j : Int) c d l) (by omega) (by omega) (valA_bd hw))
  have hmax := h.rl.len.2.2
  have hrc : (rn : Int) ≤ rc := by have := h.rl.len.2.1; omega
  have hrn : (rn : Int) ≤ 9223372036854775807 := by unfold maxLen at hmax; omega
  obtain ⟨⟨cd, a, ok⟩, hs⟩ : ∃ q, spV cn dn i = q := ⟨_, rfl⟩
  rw [hs] at C2
  have HS := Lib.hid (show spV m.code.length m.data.length i = (cd, a, ok) by rw [l3, l4]; exact hs)
  have HL := Lib.hid l5
  obtain ⟨Y, hY⟩ : ∃ Y : Int, ((rawV m.code m.data i : Nat) : Int) = Y := ⟨_, rfl⟩
  rw [hY] at C1 CA HWN HWS
  clear hs h hf hl l1 l2 l3 l4 l5 hw hc hd hi hraw hY R
  obtain ⟨XW, hXW⟩ : ∃ q, wrdW m c d l i = q := ⟨_, rfl⟩
  obtain ⟨XE, hXE⟩ : ∃ q, wrdE m c d l i = q := ⟨_, rfl⟩
  rw [hXW, hXE] at HWN HWS ⊢
  clear hXW hXE
  simp only at C2
  generalize bs m.name = x at *
  cases ok with
  | false =>
    obtain ⟨e1, e2⟩ := HWN.out (nm_not HS.out)
    subst e1 e2
    go_enter Try.func18, Try.ntmps18
    go_upto_region 1 with fail
    generalize (w.alloc (.cells (mCs x ea en ec ia im ic ca cn cc da dn dc ra rn rc) 45)).alloc (.cells #[.int .u32 c, .int .u32 d] 56) = W at *
    have JJ := J0
    clear J0
    obtain ⟨c0, c1, c2, c3, c4, c5⟩ := mod_cells JJ.out.X
    have c6 := JJ.out.X.lt
    go_wp2_with (first | (go_at_call 46; (with_reducible refine (C1.out _ JJ.out.B).mono ?_); rintro e w1 ⟨rfl, hb⟩; have JJ := Lib.hid (JJ.out.belowS hb); obtain ⟨c0, c1, c2, c3, c4, c5⟩ := mod_cells JJ.out.X; have c6 := JJ.out.X.lt; clear hb) | (go_at_call 47; (with_reducible refine (C2.out _ JJ.out.B).mono ?_); rintro e w1 ⟨rfl, hb⟩; have JJ := Lib.hid (JJ.out.belowS hb); obtain ⟨c0, c1, c2, c3, c4, c5⟩ := mod_cells JJ.out.X; have c6 := JJ.out.X.lt; clear hb))
    clear c0 c1 c2 c3 c4 c5 c6
    go_loopw [14] (fun i' wr => i' = .int .i64 0 ∧ LJ w (mCs x ea en ec ia im ic ca cn cc da dn dc ra rn rc) #[.int .u32 c, .int .u32 d] 56 wr) (fun i' _ => 0)
    case atStart => exact ⟨rfl, JJ.out⟩
    case round =>
      obtain ⟨rfl, hj⟩ := hrel
      obtain ⟨c0, c1, c2, c3, c4, c5⟩ := mod_cells hj.X
      have c6 := hj.X.lt
      have HJ := Lib.hid hj
      clear hj
      by_cases hlt : (0 : Int) < rn
      · go_wp2_with fail
        exact bodyPost_ret (v := .tuple #[.int .u32 XW, .int .i64 0]) (by simp [results, Try.results18, go_sem, *]) rfl ⟨rfl, HJ.out.B⟩
      · go_wp2_with fail
        exact bodyPost_ret (v := .tuple #[.int .u32 XW, .int .i64 0]) (by simp [results, Try.results18, go_sem, *]) rfl ⟨rfl, HJ.out.B⟩
  | true =>
    go_enter Try.func18, Try.ntmps18
    go_upto_region 1 with fail
    generalize (w.alloc (.cells (mCs x ea en ec ia im ic ca cn cc da dn dc ra rn rc) 45)).alloc (.cells #[.int .u32 c, .int .u32 d] 56) = W at *
    have JJ := J0
    clear J0
    obtain ⟨c0, c1, c2, c3, c4, c5⟩ := mod_cells JJ.out.X
    have c6 := JJ.out.X.lt
    go_wp2_with (first | (go_at_call 46; (with_reducible refine (C1.out _ JJ.out.B).mono ?_); rintro e w1 ⟨rfl, hb⟩; have JJ := Lib.hid (JJ.out.belowS hb); obtain ⟨c0, c1, c2, c3, c4, c5⟩ := mod_cells JJ.out.X; have c6 := JJ.out.X.lt; clear hb) | (go_at_call 47; (with_reducible refine (C2.out _ JJ.out.B).mono ?_); rintro e w1 ⟨rfl, hb⟩; have JJ := Lib.hid (JJ.out.belowS hb); obtain ⟨c0, c1, c2, c3, c4, c5⟩ := mod_cells JJ.out.X; have c6 := JJ.out.X.lt; clear hb))
    clear c0 c1 c2 c3 c4 c5 c6
    go_loopw [14] (fun i' wr => ∃ k : Nat, k ≤ rn ∧ i' = .int .i64 (k : Int) ∧ Hid (∀ j, j < k → hitB m i j = false) ∧ LJ w (mCs x ea en ec ia im ic ca cn cc da dn dc ra rn rc) #[.int .u32 c, .int .u32 d] 56 wr) (fun i' _ => rn - (intOf i').toNat)
    case atStart => exact ⟨0, by omega, rfl, Lib.hid (fun j hj => by omega), JJ.out⟩
    case round =>
      obtain ⟨k, hk, rfl, hp, hj⟩ := hrel
      obtain ⟨c0, c1, c2, c3, c4, c5⟩ := mod_cells hj.X
      have c6 := hj.X.lt
      obtain ⟨p0, p1⟩ := pl_cells hj.Y
      have p6 := hj.Y.lt
      have HJ := Lib.hid hj
      by_cases hlt : k < rn
      · have hlt' : (k : Int) < rn := by omega
        obtain ⟨g, off, rfl, q1, e0, e1, e2⟩ := HR.out.at hj.B hlt
        have hF := HF.out k hlt
        change (rl m k).kind < 256 ∧ (rl m k).at_ < 65536 ∧ (rl m k).wh < 65536 at hF
        change wr.cell? _ = some (.int .u8 ((rl m k).kind : Int)) at e0
        change wr.cell? _ = some (.int .u16 ((rl m k).at_ : Int)) at e1
        change wr.cell? _ = some (.int .u16 ((rl m k).wh : Int)) at e2
        have kl : k < m.rels.length := by rw [HL.out]; exact hlt
        have HH := Lib.hid (fun hN => HWS.out k (hit_some kl hN hp.out))
        clear hj kl
        obtain ⟨⟨rk, rt, rw2⟩, hr⟩ : ∃ r, rl m k = r := ⟨_, rfl⟩
        have hN := nm_of hr HS.out
        have HY := Lib.hid (by_of (c := c) (d := d) (x := Y) (l := l) hr)
        rw [hr] at e0 e1 e2 hF
        clear hr
        obtain ⟨hF0, hF1, hF2⟩ := hF
        simp only at e0 e1 e2 hF0 hF1 hF2
        have hwr : IntKind.i64.wrap (rt : Int) = (rt : Int) := by rw [IntKind.wrap_i64]; omega
        have HJa := Lib.hid (HJ.out.alloc (.cells #[.int .u8 (rk : Int), .int .u16 (rt : Int), .int .u16 (rw2 : Int)] 76))
        have HZ := Lib.hid (Whole.new wr 76 #[.int .u8 (rk : Int), .int .u16 (rt : Int), .int .u16 (rw2 : Int)])
        have CI := Lib.hid (fun u => inCode_n rk hF0 u)
        have CA := Lib.hid (CA.out rk hF0 rw2)
        have CV2 := Lib.hid (fun (u : World) (hb : Below w.heap.size w u) => CV.out u hb rk rt rw2 hF0 hF2)
        generalize valA (rk : Int) (rw2 : Int) c d l = VA at *
        generalize valE (rk : Int) (rw2 : Int) l = VE at *
        generalize VM.inC rk = b at *
        by_cases h1 : (rt : Int) = a
        · subst h1
          by_cases h2 : b = cd
          · subst h2
            by_cases h3 : rk ≤ 7
            · have hh := HH.out (by rw [hN, decide_eq_true rfl, decide_eq_true h3]; simp)
              rw [HY.out.1, HY.out.2] at hh
              have h3' : decide (7 < (rk : Int)) = false := decide_eq_false (by omega)
              clear hN hp HY HH HWN HWS h3
              by_cases hv : VE = 0
              · subst hv
                simp only [ne_eq, not_true_eq_false, if_false] at hh
                have H2 := Lib.hid hh
                clear hh
                go_wp2_with (first | (go_at_call 48; (with_reducible refine (CI.out _).mono ?_); rintro e w9 ⟨rfl, rfl⟩) | (go_at_call 49; (with_reducible refine (CV2.out _ HJa.out.B).mono ?_); rintro e w3 ⟨rfl, hb3⟩; have HJb := Lib.hid (HJa.out.belowS hb3); obtain ⟨d0, d1, d2⟩ := rel_cells (HZ.out.belowS hb3); have d3 := (HZ.out.belowS hb3).lt; clear hb3) | (go_at_call 50; (with_reducible refine (CA.out.at _).mono ?_); rintro e w4 ⟨rfl, hb4⟩))
                exact bodyPost_ret (v := .tuple #[.int .u32 (apW Y rk VA), .int .i64 (apE Y rk VA)]) (by simp [results, Try.results18, go_sem, *]) rfl ⟨by rw [H2.out.1, H2.out.2], HJb.out.B.trans (hb4.mono HJb.out.B.size)⟩
              · rw [if_pos hv, if_pos hv] at hh
                have H2 := Lib.hid hh
                clear hh
                have hv' : (VE != 0) = true := by simpa using hv
                go_wp2_with (first | (go_at_call 48; (with_reducible refine (CI.out _).mono ?_); rintro e w9 ⟨rfl, rfl⟩) | (go_at_call 49; (with_reducible refine (CV2.out _ HJa.out.B).mono ?_); rintro e w3 ⟨rfl, hb3⟩; have HJb := Lib.hid (HJa.out.belowS hb3); obtain ⟨d0, d1, d2⟩ := rel_cells (HZ.out.belowS hb3); have d3 := (HZ.out.belowS hb3).lt; clear hb3))
                exact bodyPost_ret (v := .tuple #[.int .u32 0, .int .i64 VE]) (by simp [results, Try.results18, go_sem, *]) rfl ⟨by rw [H2.out.1, H2.out.2], HJb.out.B⟩
            · have h3' : decide (7 < (rk : Int)) = true := decide_eq_true (by omega)
              rw [decide_eq_false h3, Bool.and_false] at hN
              have hp2 := Lib.hid (fun j (hj : j < k + 1) => if h' : j < k then hp.out j h' else by rw [show j = k by omega]; exact hN)
              clear hN hp HY HH
              go_wp2_with (first | (go_at_call 48; (with_reducible refine (CI.out _).mono ?_); rintro e w9 ⟨rfl, rfl⟩))
              go_roundw
              case rel => exact ⟨k + 1, by omega, by go_num, hp2, HJa.out⟩
              case measure => simp [intOf]; omega
          · have h2' : (b != cd) = true := by simpa using h2
            have hbc : (b == cd) = false := by simpa using h2
            rw [hbc, Bool.and_false, Bool.false_and] at hN
            have hp2 := Lib.hid (fun j (hj : j < k + 1) => if h' : j < k then hp.out j h' else by rw [show j = k by omega]; exact hN)
            clear hN hp HY HH
            go_wp2_with (first | (go_at_call 48; (with_reducible refine (CI.out _).mono ?_); rintro e w9 ⟨rfl, rfl⟩))
            go_roundw
            case rel => exact ⟨k + 1, by omega, by go_num, hp2, HJa.out⟩
            case measure => simp [intOf]; omega
        · have h1' : ((rt : Int) != a) = true := by simpa using h1
          rw [decide_eq_false h1, Bool.false_and, Bool.false_and] at hN
          have hp2 := Lib.hid (fun j (hj : j < k + 1) => if h' : j < k then hp.out j h' else by rw [show j = k by omega]; exact hN)
          clear hN hp HY HH
          go_wp2_with (first | (go_at_call 48; (with_reducible refine (CI.out _).mono ?_); rintro e w9 ⟨rfl, rfl⟩))
          go_roundw
          case rel => exact ⟨k + 1, by omega, by go_num, hp2, HJa.out⟩
          case measure => simp [intOf]; omega
      · obtain ⟨f1, f2⟩ := HWN.out (hit_none fun j hj' => hp.out j (by rw [HL.out] at hj'; omega))
        subst f1 f2
        have hlt' : ¬ (k : Int) < rn := by omega
        clear hj
        go_wp2_with fail
        exact bodyPost_ret (v := .tuple #[.int .u32 XW, .int .i64 0]) (by simp [results, Try.results18, go_sem, *]) rfl ⟨rfl, HJ.out.B⟩
end
end Go.Proofs.Ytajidaicojekdaa.KF

/-
  The reference's Image, call by call. Nothing here is a statement of the seed.
-/
namespace Go.Proofs.Ytajidaicojekdaa.KF
open Go.RowKit WM NR OM OR VM YM YR RM RF KM
set_option maxHeartbeats 4000000
set_option maxRecDepth 10000
theorem oneC (w : World) (u : Value) (t : TypeId) : ∀ j x, [u][j]? = some x → (w.alloc (.cells #[u] t)).cell? ((⟨w.heap.size, 0, none⟩ : Addr).add j) = some x := by
  intro j x hj
  cases j with
  | zero =>
    simp at hj
    subst hj
    exact (Whole.new w t #[u]).cell 0
  | succ j => simp at hj
/-- a module's image, or nothing -/
structure IsImg (B : Nat) (w : World) (q : Value) (m : Md) (c d : Int) (l : List Nat) : Prop where
  yes : imgE m c d l = 0 → w.ownsRow B 46 1 q (nW m) (u32s (imgL m c d l))
  no : imgE m c d l ≠ 0 → q = .slice none 0 0
theorem IsImg.below {B : Nat} {w w' : World} {q : Value} {m : Md} {c d : Int} {l : List Nat} (h : IsImg B w q m c d l) (hb : Below w.heap.size w w') : IsImg B w' q m c d l :=
  ⟨fun e => owns_below (h.yes e) hb, h.no⟩
/-- the words so far -/
def part (m : Md) (c d : Int) (l : List Nat) (k : Nat) : List Nat := (List.range k).map fun i => (wrdW m c d l (i : Nat)).toNat
theorem part_len (m : Md) (c d : Int) (l : List Nat) (k : Nat) : (part m c d l k).length = k := by simp [part]
theorem part_snoc {m : Md} {c d : Int} {l : List Nat} {k : Nat} {X : Int} (h : wrdW m c d l (k : Nat) = X) (h0 : 0 ≤ X) : u32s (part m c d l k) ++ [Value.int .u32 X] = u32s (part m c d l (k + 1)) := by
  unfold part u32s
  rw [List.range_succ, List.map_append, List.map_append]
  simp only [List.map_cons, List.map_nil]
  rw [h, Int.toNat_of_nonneg h0]
/-- the first word that fails stops the row -/
theorem err_at {m : Md} {c d : Int} {l : List Nat} {k : Nat} (hg : lngB m = false) (hk : k < nW m) (hp : ∀ j, j < k → wrdE m c d l (j : Nat) = 0) (h : wrdE m c d l (k : Nat) ≠ 0) : imgE m c d l = wrdE m c d l (k : Nat) := by
  unfold imgE
  rw [hg, if_neg (by decide)]
  have key : ∀ j, j ≤ k → errE m c d l j (nW m - j) = wrdE m c d l (k : Nat) := by
    intro j hj
    induction hn : k - j generalizing j with
    | zero =>
      obtain rfl : j = k := by omega
      rw [show nW m - j = (nW m - j - 1) + 1 by omega, errE_stop h]
    | succ n ih =>
      rw [show nW m - j = (nW m - (j + 1)) + 1 by omega, errE_step (hp j (by omega))]
      exact ih (j + 1) (by omega) (by omega)
  exact key 0 (by omega)
theorem err_none {m : Md} {c d : Int} {l : List Nat} (hg : lngB m = false) (hp : ∀ j, j < nW m → wrdE m c d l (j : Nat) = 0) : imgE m c d l = 0 := by
  unfold imgE
  rw [hg, if_neg (by decide), errE_none]
  intro j hj
  rw [Nat.zero_add]
  exact hp j hj
section
variable {w : World} {ea : Option Addr} {en ec : Nat} {ia : Option Addr} {im ic : Nat} {ca : Option Addr} {cn cc : Nat} {da : Option Addr} {dn dc : Nat} {ra : Option Addr} {rn rc : Nat} {m : Md}
theorem refImage_any (h : RdM (· < w.heap.size) w ea en ec ia im ic ca cn cc da dn dc ra rn rc m) (hf : FineM m) (hl : cn * 4 ≤ 140737488355328 ∧ dn * 4 ≤ 140737488355328) (c d : Int) (hc : 0 ≤ c ∧ c ≤ 4294967295) (hd : 0 ≤ d ∧ d ≤ 4294967295)
    (l : List Nat) (v : Value) (R : Slots w v l) (hw : ∀ x ∈ l, x < 4294967296) :
    Calls Try.prog 21 #[mV (bs m.name) ea en ec ia im ic ca cn cc da dn dc ra rn rc, plV c d, v] w fun e w' => ∃ q, e = .returned (.tuple #[q, .int .i64 (imgE m c d l)]) ∧ IsImg w.heap.size w' q m c d l ∧ Below w.heap.size w w' := by
  obtain ⟨l1, l2, l3, l4, l5⟩ := h.lens
  have J0 := Lib.hid (LJ.new w (mCs (bs m.name) ea en ec ia im ic ca cn cc da dn dc ra rn rc) #[.int .u32 c, .int .u32 d] 56)
  have k3 := (reads_len h.cd).2
  have k4 := (reads_len h.dt).2
  have k5 := h.rl.len.2
  have hcn0 : (cn : Int) ≤ cc := by omega
  have hdn0 : (dn : Int) ≤ dc := by omega
  have hrn0 : (rn : Int) ≤ rc := by omega
  by_cases hg : lngB m = true
  · have he : imgE m c d l = 5 := by unfold imgE; rw [hg]; rfl
    have hI : ∀ u, IsImg w.heap.size u (.slice none 0 0) m c d l := fun u => ⟨fun e => by rw [he] at e; omega, fun _ => rfl⟩
    rw [he]
    have HI := Lib.hid hI
    have hg := of_decide_eq_true hg
    rw [l3, l4, l5] at hg
    clear h hf R hw hl he hI l1 l2 l3 l4 l5 k3 k4 k5
    generalize bs m.name = x at *
    by_cases g1 : 512 < cn
    · have g1' : (512 : Int) < cn := by omega
      clear hg
      go_enter Try.func21, Try.ntmps21
      go_upto_region 1 with fail
      generalize (w.alloc (.cells (mCs x ea en ec ia im ic ca cn cc da dn dc ra rn rc) 45)).alloc (.cells #[.int .u32 c, .int .u32 d] 56) = W at *
      obtain ⟨c0, c1, c2, c3, c4, c5⟩ := mod_cells J0.out.X
      have c6 := J0.out.X.lt
      go_wp2_with fail
      exact bodyPost_ret (v := .tuple #[.slice none 0 0, .int .i64 5]) (by simp [results, Try.results21, go_sem, *]) rfl ⟨_, rfl, HI.out _, J0.out.B⟩
    by_cases g2 : 128 < dn
    · have g2' : (128 : Int) < dn := by omega
      have g1' : ¬ (512 : Int) < cn := by omega
      clear hg
      go_enter Try.func21, Try.ntmps21
      go_upto_region 1 with fail
      generalize (w.alloc (.cells (mCs x ea en ec ia im ic ca cn cc da dn dc ra rn rc) 45)).alloc (.cells #[.int .u32 c, .int .u32 d] 56) = W at *
      obtain ⟨c0, c1, c2, c3, c4, c5⟩ := mod_cells J0.out.X
      have c6 := J0.out.X.lt
      go_wp2_with fail
      exact bodyPost_ret (v := .tuple #[.slice none 0 0, .int .i64 5]) (by simp [results, Try.results21, go_sem, *]) rfl ⟨_, rfl, HI.out _, J0.out.B⟩
    have g3' : (256 : Int) < rn := by omega
    have g1' : ¬ (512 : Int) < cn := by omega
    have g2' : ¬ (128 : Int) < dn := by omega
    clear hg
    go_enter Try.func21, Try.ntmps21
    go_upto_region 1 with fail
    generalize (w.alloc (.cells (mCs x ea en ec ia im ic ca cn cc da dn dc ra rn rc) 45)).alloc (.cells #[.int .u32 c, .int .u32 d] 56) = W at *
    obtain ⟨c0, c1, c2, c3, c4, c5⟩ := mod_cells J0.out.X
    have c6 := J0.out.X.lt
    go_wp2_with fail
    exact bodyPost_ret (v := .tuple #[.slice none 0 0, .int .i64 5]) (by simp [results, Try.results21, go_sem, *]) rfl ⟨_, rfl, HI.out _, J0.out.B⟩
  · have hg : lngB m = false := by simpa using hg
    obtain ⟨hp1, hp2⟩ := nW_pages hg
    have hgn := of_decide_eq_false hg
    rw [l3, l4, l5] at hgn
    rw [l3, l4] at hp1
    have g1' : ¬ (512 : Int) < cn := by omega
    have g2' : ¬ (128 : Int) < dn := by omega
    have g3' : ¬ (256 : Int) < rn := by omega
    have b1 : pgs cn ≤ 32 := pgs_le (by omega)
    have b2 : pgs dn ≤ 8 := pgs_le (by omega)
    have C1 := Lib.hid (fun (u : World) (hb : Below w.heap.size w u) => refOf_any (h.go hb hb.size))
    have C2 := Lib.hid (refWords_any ((pgs cn : Nat) : Int) ((pgs dn : Nat) : Int) (by omega) (by omega))
    rw [hp1] at C2
    have CW := Lib.hid (fun (u : World) (hb : Below w.heap.size w u) (k : Nat) (hk : k ≤ 640) => refWord_any (h.go hb hb.size) hf hl c d hc hd l v (R.below hb) hw (k : Int) (by omega))
    have HE := Lib.hid (fun (k : Nat) (hk : k < nW m) hp h => err_at (m := m) (c := c) (d := d) (l := l) (k := k) hg hk hp h)
    have HN := Lib.hid (fun hp => err_none (m := m) (c := c) (d := d) (l := l) hg hp)
    have HB := Lib.hid (fun k : Nat => wrdW_bd hf (c := c) (d := d) hw (k : Int))
    have HP := Lib.hid (fun (k : Nat) (X : Int) h1 h2 => part_snoc (m := m) (c := c) (d := d) (l := l) (k := k) (X := X) h1 h2)
    have HI0 := Lib.hid (fun (u : World) (E : Int) (hE : imgE m c d l = E) (h0 : E ≠ 0) => (⟨fun e => absurd (hE.symm.trans e) h0, fun _ => rfl⟩ : IsImg w.heap.size u (.slice none 0 0) m c d l))
    have HI1 := Lib.hid (fun (u : World) (q : Value) (hE : imgE m c d l = 0) (ho : u.ownsRow w.heap.size 46 1 q (nW m) (u32s (part m c d l (nW m)))) => (⟨fun _ => ho, fun hn => absurd hE hn⟩ : IsImg w.heap.size u q m c d l))
    obtain ⟨IE, hIE⟩ : ∃ q, imgE m c d l = q := ⟨_, rfl⟩
    rw [hIE] at HE HN ⊢
    have HIE := Lib.hid hIE
    clear h hf R hw hl hg hgn l1 l2 l3 l4 l5 k3 k4 k5 hp1 b1 b2 hc hd hIE
    obtain ⟨i0, hi, hz0, hz1, hz2⟩ := info_parts infoWord
    have HPL := Lib.hid (part_len m c d l)
    generalize hPT : part m c d l = PT at *
    have HP0 : Hid (PT 0 = []) := Lib.hid (by rw [← hPT]; rfl)
    clear hPT
    generalize nW m = n at *
    generalize pgs cn = p at *
    generalize pgs dn = pq at *
    generalize bs m.name = x at *
    go_enter Try.func21, Try.ntmps21
    go_upto_region 1 with fail
    generalize (w.alloc (.cells (mCs x ea en ec ia im ic ca cn cc da dn dc ra rn rc) 45)).alloc (.cells #[.int .u32 c, .int .u32 d] 56) = W at *
    have JJ := J0
    obtain ⟨c0, c1, c2, c3, c4, c5⟩ := mod_cells JJ.out.X
    have c6 := JJ.out.X.lt
    go_wp2_with (first | (go_at_call 53; (with_reducible refine (C1.out _ JJ.out.B).mono ?_); rintro e w1 ⟨rfl, hb⟩; have JJ := Lib.hid (JJ.out.belowS hb); have HW1 := Lib.hid hb; clear hb) | (go_at_call 52; (with_reducible refine (C2.out _).mono ?_); rintro e w2 ⟨rfl, hb⟩; have JJ := Lib.hid (JJ.out.belowS hb); have HW2 := Lib.hid (HW1.out.trans (hb.mono HW1.out.size)); clear hb))
    clear c0 c1 c2 c3 c4 c5 c6 JJ
    go_loopw [8, 10] (fun o i wr => ∃ (k : Nat) (q : Value), k ≤ n ∧ i = .int .i64 (k : Int) ∧ o = q ∧ wr.ownsRow W.heap.size 46 1 q k (u32s (PT k)) ∧ Hid (∀ j, j < k → wrdE m c d l (j : Nat) = 0) ∧ Below W.heap.size W wr) (fun o i _ => n - (intOf i).toNat)
    case atStart => exact ⟨0, _, by omega, rfl, rfl, by rw [HP0.out]; exact World.ownsRow_nil _ _ _ _, Lib.hid (fun j hj => by omega), HW2.out⟩
    case round =>
      obtain ⟨k, q, hk, rfl, rfl, hown, hp, hbl⟩ := hrel
      have hj := J0.out.belowS hbl
      obtain ⟨c0, c1, c2, c3, c4, c5⟩ := mod_cells hj.X
      have c6 := hj.X.lt
      obtain ⟨p0, p1⟩ := pl_cells hj.Y
      have p6 := hj.Y.lt
      have hwb := Lib.hid (J0.out.B)
      by_cases hlt : k < n
      · have hlt' : (k : Int) < n := by omega
        have CWk := CW.out wr hj.B k (by omega)
        by_cases he : wrdE m c d l (k : Nat) = 0
        · have hp2 := Lib.hid (fun j (hj : j < k + 1) => if h' : j < k then hp.out j h' else by rw [show j = k by omega]; exact he)
          rw [he] at CWk
          obtain ⟨X, hX⟩ : ∃ X, wrdW m c d l (k : Nat) = X := ⟨_, rfl⟩
          have hsn := Lib.hid (HP.out k X hX (by have := (HB.out k).1; rw [hX] at this; exact this))
          rw [hX] at CWk
          have CWk := Lib.hid CWk
          clear hX hp he
          have hnb : (k + 1) * 4 ≤ 140737488355328 := by omega
          have hnm : k + 1 ≤ maxLen := by unfold maxLen; omega
          go_wp2_with (first | (go_at_call 18; (with_reducible refine CWk.out.mono ?_); rintro e w3 ⟨rfl, hb3⟩; have hown3 := owns_below hown hb3; have hbl3 := below_of hbl hb3; have hj3 := Lib.hid (hj.belowS hb3); obtain ⟨c0, c1, c2, c3, c4, c5⟩ := mod_cells hj3.out.X; have c6 := hj3.out.X.lt; obtain ⟨p0, p1⟩ := pl_cells hj3.out.Y; have p6 := hj3.out.Y.lt; clear hb3) | (at_builtin; refine wpList_append_own _ rfl _ _ 36 rfl W.heap.size 46 i0 (.int .u32 0) 1 4 Try.underlying36 hi hz0 hz1 hz2 rfl (by decide) _ _ _ rfl (hown3.alloc _) ⟨w3.heap.size, 0, none⟩ 1 1 [.int .u32 X] rfl rfl ?c1 ?c2 hnm hnb ?c5 ?_))
          case c1 => exact oneC _ _ _
          case c2 => intro u hu; simp at hu; subst hu; rfl
          case c5 => simp; have := hbl3.size; omega
          intro v' w4 hown4 hgrow _
          have hB4 := (hbl3.alloc hbl3.size (.cells #[.int .u32 X] 46)).grown hgrow (Nat.le_trans hbl3.size (by simp)) (fun g hg => (hown3.lt g hg).1)
          rw [hsn.out] at hown4
          go_wp2_with fail
          go_roundw
          case rel => exact ⟨k + 1, _, by omega, by go_num, rfl, hown4, hp2, hB4⟩
          case measure => simp [intOf]; omega
        · have hE := HE.out k hlt hp.out he
          have CWk := Lib.hid CWk
          rw [← hE] at CWk he
          have he' : (IE != 0) = true := by simpa using he
          have HIk := Lib.hid (fun u => HI0.out u IE HIE.out he)
          clear hp he hE
          go_wp2_with (go_at_call 18; (with_reducible refine CWk.out.mono ?_); rintro e w3 ⟨rfl, hb3⟩; have hown3 := owns_below hown hb3; have hbl3 := below_of hbl hb3; have hj3 := Lib.hid (hj.belowS hb3); obtain ⟨c0, c1, c2, c3, c4, c5⟩ := mod_cells hj3.out.X; have c6 := hj3.out.X.lt; obtain ⟨p0, p1⟩ := pl_cells hj3.out.Y; have p6 := hj3.out.Y.lt; clear hb3)
          exact bodyPost_ret (v := .tuple #[.slice none 0 0, .int .i64 IE]) (by simp [results, Try.results21, go_sem, *]) rfl ⟨_, rfl, HIk.out _, hj3.out.B⟩
      · obtain rfl : k = n := by omega
        have hE := HN.out hp.out
        subst hE
        have hlt' : ¬ (k : Int) < k := by omega
        have HO := Lib.hid (owns_base hown (B' := w.heap.size) J0.out.B.size)
        have HBJ := Lib.hid hj.B
        clear hp hj
        go_wp2_with fail
        exact bodyPost_ret (v := .tuple #[u8, .int .i64 0]) (by simp [results, Try.results21, go_sem, *]) rfl ⟨_, rfl, HI1.out _ _ HIE.out HO.out, HBJ.out⟩
end
end Go.Proofs.Ytajidaicojekdaa.KF
