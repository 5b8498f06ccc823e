/-
  Calls, as they come in; both tables through many calls. Nothing here is a statement of the seed.
-/
import Derived.Test.YthpdpocglfafaaaPageAwake
import Derived.Deep.RegionWith
set_option linter.unusedSimpArgs false
set_option linter.unusedVariables false
namespace Go.Proofs.Ythpdpocglfafaaa.PF
open Go.RowKit PM PR

/-- the slice v holds n calls -/
def Acts (B : Nat) (w : World) (v : Value) (n : Nat) : Prop :=
  ∃ a cap, v = .slice a n cap ∧ n ≤ cap ∧ cap ≤ maxLen ∧ (n = 0 ∨ ∃ ga off, a = some ⟨ga, off, none⟩ ∧ ga < B ∧
    ∀ i, i < n → ∃ k x m o e : Int, (0 ≤ k ∧ k ≤ 255) ∧ m ≤ 9223372036854775807 ∧ w.cell? ⟨ga, off + i * 5, none⟩ = some (.int .u8 k) ∧ w.cell? ⟨ga, off + i * 5 + 1, none⟩ = some (.int .i64 x) ∧ w.cell? ⟨ga, off + i * 5 + 2, none⟩ = some (.int .i64 m) ∧
      w.cell? ⟨ga, off + i * 5 + 3, none⟩ = some (.int .u16 o) ∧ w.cell? ⟨ga, off + i * 5 + 4, none⟩ = some (.int .u64 e))
/-- the program's table at p (pages in g), the reference's in the variable R: alike, and like J -/
def Duo (J : List Pg → Prop) (w0 : World) (p g R : Nat) (wr : World) : Prop :=
  ∃ l gr c, J l ∧ FineL l ∧ Tb wr p g l ∧ Row wr gr l ∧ gr ≠ g ∧ l.length ≤ c ∧ c ≤ maxLen ∧ Whole wr R 28 #[.slice (some ⟨gr, 0, none⟩) l.length c] ∧ w0.heap.size ≤ g ∧ w0.heap.size ≤ p ∧ w0.heap.size ≤ R ∧ Below w0.heap.size w0 wr
theorem Duo.belowS {J : List Pg → Prop} {w0 wr w' : World} {p g R : Nat} (h : Duo J w0 p g R wr) (hb : Below wr.heap.size wr w') : Duo J w0 p g R w' := by
  obtain ⟨l, gr, c, h1, h2, h3, h4, h5, h6, h7, h8, h9, h10, h11, h12⟩ := h
  exact ⟨l, gr, c, h1, h2, h3.belowS hb, h4.belowS hb, h5, h6, h7, h8.belowS hb, h9, h10, h11, below_of h12 (hb.mono (Nat.le_refl _))⟩
theorem Duo.below {J : List Pg → Prop} {w0 wr : World} {p g R : Nat} (h : Duo J w0 p g R wr) : Below w0.heap.size w0 wr := by
  obtain ⟨l, gr, c, h1, h2, h3, h4, h5, h6, h7, h8, h9, h10, h11, h12⟩ := h
  exact h12
/-- what a round of calls finds -/
theorem duo_open {J : List Pg → Prop} {w0 wr : World} {p g R : Nat} (h : Duo J w0 p g R wr) : ∃ l gr c, wr.cell? ⟨R, 0, none⟩ = some (.slice (some ⟨gr, 0, none⟩) l.length c) ∧ wr.frozen? ⟨R, 0, none⟩ = false ∧ R ≠ g ∧ R < wr.heap.size ∧ w0.heap.size ≤ g ∧ l.length ≤ 256 ∧
    Hid (J l ∧ FineL l ∧ Tb wr p g l ∧ Row wr gr l ∧ gr ≠ g ∧ l.length ≤ c ∧ c ≤ maxLen ∧ Whole wr R 28 #[.slice (some ⟨gr, 0, none⟩) l.length c] ∧ w0.heap.size ≤ g ∧ w0.heap.size ≤ p ∧ w0.heap.size ≤ R ∧ Below w0.heap.size w0 wr) := by
  obtain ⟨l, gr, c, h1, h2, h3, h4, h5, h6, h7, h8, h9, h10, h11, h12⟩ := h
  exact ⟨l, gr, c, h8.cell 0, h8.frozen 0, h8.ne_ h3.row.choose_spec (by decide), h8.lt, h9, h3.1, Lib.hid ⟨h1, h2, h3, h4, h5, h6, h7, h8, h9, h10, h11, h12⟩⟩
/-- behind a call, once its table is laid in the variable -/
theorem duo_next {J : List Pg → Prop} (hJ : ∀ l x, FineL l → J l → J (actL l x)) {w0 wr w2 : World} {p g R gr c : Nat} {l : List Pg} {x : Ac} {gr' c' : Nat}
    (H : Hid (J l ∧ FineL l ∧ Tb wr p g l ∧ Row wr gr l ∧ gr ≠ g ∧ l.length ≤ c ∧ c ≤ maxLen ∧ Whole wr R 28 #[.slice (some ⟨gr, 0, none⟩) l.length c] ∧ w0.heap.size ≤ g ∧ w0.heap.size ≤ p ∧ w0.heap.size ≤ R ∧ Below w0.heap.size w0 wr))
    (D : Hid (Tb w2 p g (actL l x) ∧ Row w2 gr' (actL l x) ∧ (actL l x).length ≤ c' ∧ c' ≤ maxLen ∧ Fr (fun i => i = g) wr w2 ∧ (gr' = gr ∨ wr.heap.size ≤ gr'))) :
    Duo J w0 p g R (w2.setCell ⟨R, 0, none⟩ (.slice (some ⟨gr', 0, none⟩) (actL l x).length c')) := by
  obtain ⟨h1, h2, h3, h4, h5, h6, h7, h8, h9, h10, h11, h12⟩ := H.out
  obtain ⟨d1, d2, d3, d4, d5, d6⟩ := D.out
  have hgl := h3.lt
  have hRg : R ≠ g := h8.ne_ h3.row.choose_spec (by decide)
  have hRp : R ≠ p := by obtain ⟨_, _, c, _, _, hp⟩ := h3; exact h8.ne_ hp (by decide)
  have hRr : R ≠ gr := h8.ne_ h4.choose_spec (by decide)
  have hRl := h8.lt
  have hgr' : gr' ≠ R := by rcases d6 with rfl | h; exact hRr.symm; omega
  have hgr2 : gr' ≠ g := by rcases d6 with rfl | h; exact h5; omega
  obtain ⟨t1, t2, t3, t4, t5, t6⟩ := d1
  refine ⟨actL l x, gr', c', hJ l x h2 h1, h2.act x, ⟨t1, t2.far hRg.symm _, t3, t4, t5, t6.far hRp.symm _⟩, d2.far hgr' _, hgr2, d3, d4, ?_, h9, h10, h11, (Below.fr h12 d5 h12.size (by rintro i rfl; exact h9)).setCell h11 _⟩
  have := (h8.fr d5 hRg).set_ 0 (.slice (some ⟨gr', 0, none⟩) (actL l x).length c')
  simpa using this
theorem duo_do {J : List Pg → Prop} {w0 wr : World} {p g R gr c : Nat} {l : List Pg} (k a m o e : Int) (hk : 0 ≤ k ∧ k ≤ 255) (hm : m ≤ 9223372036854775807)
    (H : Hid (J l ∧ FineL l ∧ Tb wr p g l ∧ Row wr gr l ∧ gr ≠ g ∧ l.length ≤ c ∧ c ≤ maxLen ∧ Whole wr R 28 #[.slice (some ⟨gr, 0, none⟩) l.length c] ∧ w0.heap.size ≤ g ∧ w0.heap.size ≤ p ∧ w0.heap.size ≤ R ∧ Below w0.heap.size w0 wr)) :
    Calls Try.prog 13 #[.pointer (some ⟨p, 0, none⟩), .agg #[.slice (some ⟨gr, 0, none⟩) l.length c], .agg #[.int .u8 k, .int .i64 a, .int .i64 m, .int .u16 o, .int .u64 e]] wr.drew fun en w2 =>
      ∃ gr' c', en = .returned (.tuple #[.agg #[.slice (some ⟨gr', 0, none⟩) (actL l ⟨k, a, m, o, e⟩).length c'], .bool true]) ∧ Hid (Tb w2 p g (actL l ⟨k, a, m, o, e⟩) ∧ Row w2 gr' (actL l ⟨k, a, m, o, e⟩) ∧ (actL l ⟨k, a, m, o, e⟩).length ≤ c' ∧ c' ≤ maxLen ∧ Fr (fun i => i = g) wr w2 ∧ (gr' = gr ∨ wr.heap.size ≤ gr')) ∧
        w2.cell? ⟨R, 0, none⟩ = some (.slice (some ⟨gr, 0, none⟩) l.length c) ∧ w2.frozen? ⟨R, 0, none⟩ = false := by
  obtain ⟨h1, h2, h3, h4, h5, h6, h7, h8, h9, h10, h11, h12⟩ := H.out
  have hd : Below wr.heap.size wr wr.drew := (Below.refl _ _).drew
  refine (do_any (h3.belowS hd) (h4.belowS hd) h5 h6 h7 h2 k a m o e hk hm).mono ?_
  rintro en w2 ⟨gr', c', rfl, d1, d2, d3, d4, d5, d6⟩
  have hF : Fr (fun i => i = g) wr w2 := (Fr.of_below hd).trans d5 (fun i h => Or.inl h)
  have hR := h8.fr hF (h8.ne_ h3.row.choose_spec (by decide))
  exact ⟨gr', c', rfl, Lib.hid ⟨d1, d2, d3, d4, hF, d6⟩, hR.cell 0, hR.frozen 0⟩
theorem duo_same {J : List Pg → Prop} {w0 wr : World} {p g R : Nat} {l : List Pg} {gr c : Nat}
    (H : Hid (J l ∧ FineL l ∧ Tb wr p g l ∧ Row wr gr l ∧ gr ≠ g ∧ l.length ≤ c ∧ c ≤ maxLen ∧ Whole wr R 28 #[.slice (some ⟨gr, 0, none⟩) l.length c] ∧ w0.heap.size ≤ g ∧ w0.heap.size ≤ p ∧ w0.heap.size ≤ R ∧ Below w0.heap.size w0 wr)) :
    Calls Try.prog 12 #[.pointer (some ⟨p, 0, none⟩), .agg #[.slice (some ⟨gr, 0, none⟩) l.length c]] wr fun e w' => e = .returned (.bool true) ∧ Below wr.heap.size wr w' := by
  obtain ⟨h1, h2, h3, h4, h5, h6, h7, h8, h9, h10, h11, h12⟩ := H.out
  exact same_any h3 h4 h6 h7 h2
/-- New, of both, and the variable -/
theorem duo_new {J : List Pg → Prop} {w w1 w2 : World} {n p g gr c : Nat} (hJ : J (zeros n)) (h256 : n ≤ 256) (hT : Tb w1 p g (zeros n)) (hp : w.heap.size ≤ p) (hg : w.heap.size ≤ g) (hb : Below w.heap.size w w1)
    (hR : Rt w2 gr (zeros n) (.slice (some ⟨gr, 0, none⟩) n c)) (hg2 : w1.heap.size ≤ gr) (hb2 : Below w1.heap.size w1 w2) : Duo J w p g w2.heap.size (w2.alloc (.cells #[.slice (some ⟨gr, 0, none⟩) n c] 28)) := by
  obtain ⟨r1, r2, c2, r3, r4, r5⟩ := hR
  simp only [Value.slice.injEq, true_and] at r5
  obtain ⟨_, rfl⟩ := r5
  have hl := hT.lt
  have hw := below_of hb hb2
  rw [zeros_len] at r3
  refine ⟨zeros n, gr, c, hJ, fine_zeros n, (hT.belowS hb2).belowS (below_new _ _), r2.alloc _, by omega, by rw [zeros_len]; exact r3, r4, by rw [zeros_len]; exact Whole.new _ _ _, hg, hp, hw.size, hw.alloc hw.size _⟩
theorem new_same {w1 w2 : World} {n p g gr c : Nat} (o : Obj) (hT : Tb w1 p g (zeros n)) (hR : Rt w2 gr (zeros n) (.slice (some ⟨gr, 0, none⟩) n c)) (hb2 : Below w1.heap.size w1 w2) :
    Calls Try.prog 12 #[.pointer (some ⟨p, 0, none⟩), .agg #[.slice (some ⟨gr, 0, none⟩) n c]] (w2.alloc o) fun e w' => e = .returned (.bool true) ∧ Below (w2.alloc o).heap.size (w2.alloc o) w' := by
  obtain ⟨r1, r2, c2, r3, r4, r5⟩ := hR
  simp only [Value.slice.injEq, true_and] at r5
  obtain ⟨_, rfl⟩ := r5
  have K := same_any (c := c) ((hT.belowS hb2).belowS (below_new w2 o)) (r2.alloc o) r3 r4 (fine_zeros n)
  rw [zeros_len] at K
  exact K
end Go.Proofs.Ythpdpocglfafaaa.PF
