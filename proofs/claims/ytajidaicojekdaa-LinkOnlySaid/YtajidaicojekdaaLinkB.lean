/-
  Joined texts: LinkHalf, LinkGood, LinkTwo. Nothing here is a statement of the seed.
-/
import Derived.Test.YtajidaicojekdaaObjA
import Derived.Test.YtajidaicojekdaaLinkA
import Derived.Maps.AppendAt
set_option linter.unusedSimpArgs false
set_option linter.unusedVariables false
/-
  Rows of half words. Nothing here is a statement of the seed.
-/
namespace Go.Proofs.Ytajidaicojekdaa.KF
open Go.RowKit WM NR OM OR
def u16s (l : List Nat) : List Value := l.map fun (n : Nat) => Value.int .u16 (n : Int)
theorem u16s_len (l : List Nat) : (u16s l).length = l.length := by simp [u16s]
theorem u16s_at (l : List Nat) (j : Nat) (h : j < l.length) : (u16s l)[j]? = some (.int .u16 ((l.getD j 0 : Nat) : Int)) := by
  rw [List.getD_eq_getElem?_getD, List.getElem?_eq_getElem h]
  simp [u16s, h]
end Go.Proofs.Ytajidaicojekdaa.KF

/-
  Linked words of a module that may be loaded, as numbers. Nothing of the program.
-/
namespace Go.Proofs.Ytajidaicojekdaa.KM
open OM IM VM YM RM KF

/-- is it a kind of data's words? -/
def dtB (k : Nat) : Bool := decide (k = 4 ∨ k = 5 ∨ k = 6)
theorem dt_inC {k : Nat} (h : k ≤ 7) : dtB k = !VM.inC k := by
  unfold dtB VM.inC
  rw [Bool.eq_iff_iff]
  simp
  omega
/-- the k-th relocation, of a module that may be loaded -/
theorem good_rel {m : Md} (h : VM.Good m) {k : Nat} (hk : k < m.rels.length) : (rl m k).kind ≤ 7 := by
  obtain ⟨_, _, _, _, h7⟩ := chk_ok h.ck
  exact h7 _ (mem_getD hk)
theorem good_most {m : Md} (h : VM.Good m) {k : Nat} (hk : k < m.rels.length) : (rl m k).wh < most m (rl m k).kind := whichB_no.1 (h.wh k hk)
theorem hit_iff {m : Md} {i : Int} {k : Nat} {cd : Bool} {a : Int} (hs : spV m.code.length m.data.length i = (cd, a, true)) : hitB m i k = true ↔ ((rl m k).at_ : Int) = a ∧ VM.inC (rl m k).kind = cd ∧ (rl m k).kind ≤ 7 := by
  unfold hitB nmB
  rw [hs]
  simp [and_assoc]
theorem hit_ok {m : Md} {i : Int} {k : Nat} (h : hitB m i k = true) : (spV m.code.length m.data.length i).2.2 = true := by
  unfold hitB at h
  rw [Bool.and_eq_true] at h
  exact h.1
theorem hit_off {m : Md} {i : Int} {k : Nat} {cd : Bool} {a : Int} (hs : spV m.code.length m.data.length i = (cd, a, false)) : hitB m i k = false := by
  unfold hitB
  rw [hs]
  rfl
/-- at most one relocation names a word -/
theorem hit_one {m : Md} (h : VM.Good m) {i : Int} {j k : Nat} (hj : j < m.rels.length) (hk : k < m.rels.length) (h1 : hitB m i j = true) (h2 : hitB m i k = true) : j = k := by
  obtain ⟨⟨cd, a, ok⟩, hs⟩ : ∃ q, spV m.code.length m.data.length i = q := ⟨_, rfl⟩
  have ho := hit_ok h1
  rw [hs] at ho
  simp only at ho
  subst ho
  obtain ⟨a1, b1, _⟩ := (hit_iff hs).1 h1
  obtain ⟨a2, b2, _⟩ := (hit_iff hs).1 h2
  rcases Nat.lt_trichotomy j k with hlt | he | hlt
  · exact absurd ⟨by omega, by rw [b1, b2]⟩ ((placeB_no.1 (h.pl k hk)).2 j hlt)
  · exact he
  · exact absurd ⟨by omega, by rw [b1, b2]⟩ ((placeB_no.1 (h.pl j hj)).2 k hlt)
theorem hit_is {m : Md} (h : VM.Good m) {i : Int} {k : Nat} (hk : k < m.rels.length) (h1 : hitB m i k = true) : hit m i = k :=
  hit_some hk h1 fun j hj => by
    cases e : hitB m i j
    · rfl
    · have := hit_one h (Nat.lt_trans hj hk) hk e h1
      omega
/-- what a word that a relocation of code names is -/
theorem hit_code {m : Md} (h : VM.Good m) {i : Int} {k : Nat} (hk : k < m.rels.length) (h1 : hitB m i k = true) (hc : RM.inC ((rl m k).kind : Int) = true) :
    opB (rawV m.code m.data i : Nat) (rl m k).kind = true ∧ pM (rawV m.code m.data i : Nat) = 0 := by
  rw [inC_nat] at hc
  obtain ⟨⟨cd, a, ok⟩, hs⟩ : ∃ q, spV m.code.length m.data.length i = q := ⟨_, rfl⟩
  have ho := hit_ok h1
  rw [hs] at ho
  simp only at ho
  subst ho
  obtain ⟨a1, b1, _⟩ := (hit_iff hs).1 h1
  rw [hc] at b1
  subst b1
  have hi : 0 ≤ i ∧ i < m.code.length ∧ a = i := by
    unfold spV at hs
    split at hs
    · simp at hs; omega
    · split at hs <;> simp at hs
  have ha : (rl m k).at_ = i.toNat := by omega
  have hd := kindB_no.1 (h.kd k hk)
  rw [if_pos hc, ha] at hd
  obtain ⟨j, rfl⟩ := Int.eq_ofNat_of_zero_le hi.1
  rw [rawV_code (by omega)]
  simp only [Int.toNat_natCast] at hd
  obtain ⟨d1, d2⟩ := hd
  have hw : wantK (rl m k).kind = opK ((rl m k).kind : Int) := by
    unfold wantK opK
    split <;> split <;> omega
  have hb : IM.hasB (m.code.getD j 0 : Nat) = true := by
    unfold opW at d1
    split at d1
    · assumption
    · unfold wantK at d1
      split at d1 <;> omega
  unfold opW at d1
  unfold immW at d2
  rw [if_pos hb] at d1 d2
  unfold opB
  rw [hb, d1, hw]
  exact ⟨by simp, d2⟩
/-- the address that a relocation stands for -/
theorem good_val {m : Md} (h : VM.Good m) {k : Nat} (hk : k < m.rels.length) {l : List Nat} (hl : m.imps.length ≤ l.length) : valE (rl m k).kind (rl m k).wh l = 0 := by
  have h7 := good_rel h hk
  have hm := good_most h hk
  unfold valE
  rw [if_neg]
  intro hh
  rcases hh with hh | ⟨hi, hn⟩
  · omega
  · have hi := of_decide_eq_true hi
    unfold most at hm
    rw [if_pos (by omega)] at hm
    omega
theorem val_small {m : Md} (h : VM.Good m) {k : Nat} (hk : k < m.rels.length) {l : List Nat} {c d : Int} (hs : ∀ x ∈ l, x ≤ 65535) (hc : 0 ≤ c ∧ c ≤ 4176) (hd : 0 ≤ d ∧ d ≤ 4176) :
    0 ≤ valA (rl m k).kind (rl m k).wh c d l ∧ valA (rl m k).kind (rl m k).wh c d l ≤ 1048575 := by
  have h7 := good_rel h hk
  have hm := good_most h hk
  obtain ⟨⟨_, _, g3, g4, _⟩, _⟩ := chk_ok h.ck
  have hw : (rl m k).wh < 1024 ∨ imp ((rl m k).kind : Int) = true := by
    by_cases hi : (rl m k).kind = 0 ∨ (rl m k).kind = 1 ∨ (rl m k).kind = 4
    · exact Or.inr (decide_eq_true (by omega))
    · unfold most at hm
      rw [if_neg hi] at hm
      split at hm <;> exact Or.inl (by omega)
  unfold valA
  rw [if_neg (by omega)]
  split
  · have hx : l.getD ((rl m k).wh : Int).toNat 0 ≤ 65535 := by
      rw [List.getD_eq_getElem?_getD]
      by_cases hj : ((rl m k).wh : Int).toNat < l.length
      · rw [List.getElem?_eq_getElem hj]; exact hs _ (List.getElem_mem hj)
      · rw [List.getElem?_eq_none (by omega)]; simp
    omega
  · rename_i hi
    have hw : (rl m k).wh < 1024 := hw.resolve_right hi
    split <;> omega
/-- a word that a relocation names, of a module that may be loaded -/
theorem good_by {m : Md} (h : VM.Good m) {i : Int} {k : Nat} (hk : k < m.rels.length) (h1 : hitB m i k = true) {l : List Nat} (hl : m.imps.length ≤ l.length) (hs : ∀ x ∈ l, x ≤ 65535) {c d : Int} (hc : 0 ≤ c ∧ c ≤ 4176) (hd : 0 ≤ d ∧ d ≤ 4176) :
    byE m c d l (rawV m.code m.data i : Nat) k = 0 ∧ byW m c d l (rawV m.code m.data i : Nat) k = if RM.inC ((rl m k).kind : Int) then putW (rawV m.code m.data i : Nat) (rl m k).kind (valA (rl m k).kind (rl m k).wh c d l) else valA (rl m k).kind (rl m k).wh c d l := by
  have h7 := good_rel h hk
  have hv := good_val h hk hl
  have hb := val_small h hk hs hc hd
  unfold byE byW
  rw [hv, if_neg (by simp), if_neg (by simp)]
  have e : apE (rawV m.code m.data i : Nat) (rl m k).kind (valA (rl m k).kind (rl m k).wh c d l) = 0 := by
    unfold apE
    rw [if_neg (by omega)]
    cases hcc : RM.inC ((rl m k).kind : Int) with
    | false => rfl
    | true =>
      obtain ⟨o1, o2⟩ := hit_code h hk h1 hcc
      rw [o1, o2, if_neg (by decide), if_neg (by simp), if_neg (by omega)]
  refine ⟨e, ?_⟩
  unfold apW
  rw [if_pos e]
/-- every word of it is linked -/
theorem good_wrd {m : Md} (h : VM.Good m) {l : List Nat} (hl : m.imps.length ≤ l.length) (hs : ∀ x ∈ l, x ≤ 65535) {c d : Int} (hc : 0 ≤ c ∧ c ≤ 4176) (hd : 0 ≤ d ∧ d ≤ 4176) (i : Int) : wrdE m c d l i = 0 := by
  by_cases hh : 0 ≤ hit m i
  · obtain ⟨k, e, hk, h1, _⟩ := ff_at hh
    rw [(wrd_some (show hit m i = (k : Nat) from e)).2]
    exact (good_by h hk h1 hl hs hc hd).1
  · unfold wrdE
    rw [if_neg hh]
theorem good_lng {m : Md} (h : VM.Good m) : lngB m = false := by
  obtain ⟨⟨_, _, g3, g4, g5⟩, _⟩ := chk_ok h.ck
  exact decide_eq_false (by omega)
theorem good_img {m : Md} (h : VM.Good m) {l : List Nat} (hl : m.imps.length ≤ l.length) (hs : ∀ x ∈ l, x ≤ 65535) {c d : Int} (hc : 0 ≤ c ∧ c ≤ 4176) (hd : 0 ≤ d ∧ d ≤ 4176) : imgE m c d l = 0 := by
  unfold imgE
  rw [good_lng h, if_neg (by decide), errE_none]
  intro j _
  exact good_wrd h hl hs hc hd _
theorem none_wrd {m : Md} {i : Int} (h : ∀ k, k < m.rels.length → hitB m i k = false) {c d : Int} {l : List Nat} : wrdW m c d l i = (rawV m.code m.data i : Nat) := (wrd_none (hit_none h)).1
/-- a word at two places, with two lists of slots -/
theorem some_wrd {m : Md} (h : VM.Good m) {i : Int} {k : Nat} (hk : k < m.rels.length) (h1 : hitB m i k = true) {l : List Nat} (hl : m.imps.length ≤ l.length) (hs : ∀ x ∈ l, x ≤ 65535) {c d : Int} (hc : 0 ≤ c ∧ c ≤ 4176) (hd : 0 ≤ d ∧ d ≤ 4176) :
    ∃ z : Int, (∀ c' d' l', (0 ≤ c' ∧ c' ≤ 4176) → (0 ≤ d' ∧ d' ≤ 4176) → m.imps.length ≤ l'.length → (∀ x ∈ l', x ≤ 65535) → wrdW m c' d' l' i = z + valA (rl m k).kind (rl m k).wh c' d' l') := by
  cases hcc : RM.inC ((rl m k).kind : Int) with
  | false =>
    refine ⟨0, fun c' d' l' hc' hd' hl' hs' => ?_⟩
    rw [(wrd_some (hit_is h hk h1)).1, (good_by h hk h1 hl' hs' hc' hd').2, hcc]
    simp
  | true =>
    refine ⟨enc (opK (rl m k).kind) (pD (rawV m.code m.data i : Nat)) 0 0 0, fun c' d' l' hc' hd' hl' hs' => ?_⟩
    rw [(wrd_some (hit_is h hk h1)).1, (good_by h hk h1 hl' hs' hc' hd').2, hcc, if_pos rfl]
    have hb := val_small h hk hs' hc' hd'
    unfold putW enc low
    have ho := opK_cases ((rl m k).kind : Int)
    rw [if_neg (by omega), if_neg (by omega)]
    omega
/-- does one of the first n relocations name the word? -/
def anyB (m : Md) (i : Int) (n : Nat) : Bool := (List.range n).any (hitB m i)
theorem any_zero (m : Md) (i : Int) : anyB m i 0 = false := rfl
theorem any_succ (m : Md) (i : Int) (n : Nat) : anyB m i (n + 1) = (anyB m i n || hitB m i n) := by
  unfold anyB
  rw [List.range_succ, List.any_append]
  simp
theorem any_off {m : Md} {i : Int} {n : Nat} : anyB m i n = false ↔ ∀ k, k < n → hitB m i k = false := by
  unfold anyB
  rw [List.any_eq_false]
  simp
/-- one relocation more, told by its parts -/
theorem any_step {m : Md} (h : VM.Good m) {i : Int} {j rk rt rw : Nat} {cd ok : Bool} {a : Int} (hj : j < m.rels.length) (hr : rl m j = ⟨rk, rt, rw⟩) (hs : spV m.code.length m.data.length i = (cd, a, ok)) :
    anyB m i (j + 1) = (anyB m i j || (ok && decide ((rt : Int) = a) && (dtB rk != cd))) := by
  have h7 := good_rel h hj
  rw [hr] at h7
  simp only at h7
  rw [any_succ]
  congr 1
  cases ok with
  | false => rw [hit_off hs]; rfl
  | true =>
    rw [nm_of hr hs, decide_eq_true h7, dt_inC h7]
    cases VM.inC rk <;> cases cd <;> simp
theorem valA_of {k i c d : Int} {l : List Nat} (h7 : k ≤ 7) : valA k i c d l = if imp k then ((l.getD i.toNat 0 : Nat) : Int) else if k = 2 ∨ k = 5 then (d + i) % 4294967296 else (c + i) % 4294967296 := by
  unfold valA
  rw [if_neg (by omega)]
theorem val_moves {k wh c d c' d' : Int} {l : List Nat} (h7 : k ≤ 7) (hw : imp k = false → 0 ≤ wh ∧ wh < 1024) (hc : 0 ≤ c ∧ c ≤ 4176) (hd : 0 ≤ d ∧ d ≤ 4176) (hc' : 0 ≤ c' ∧ c' ≤ 4176) (hd' : 0 ≤ d' ∧ d' ≤ 4176) (hby : d' - d = c' - c) :
    valA k wh c' d' l - valA k wh c d l = if imp k then 0 else c' - c := by
  rw [valA_of h7, valA_of h7]
  cases hi : imp k with
  | true =>
    simp only [if_true]
    omega
  | false =>
    have := hw hi
    simp only [Bool.false_eq_true, if_false]
    split <;> omega
theorem val_imports {k wh c d : Int} {l l' : List Nat} (h7 : k ≤ 7) : valA k wh c d l' - valA k wh c d l = if imp k then ((l'.getD wh.toNat 0 : Nat) : Int) - (l.getD wh.toNat 0 : Nat) else 0 := by
  rw [valA_of h7, valA_of h7]
  cases hi : imp k with
  | true => simp only [if_true]
  | false =>
    simp only [Bool.false_eq_true, if_false]
    split <;> omega
/-- a word at another place -/
theorem moves {m : Md} (h : VM.Good m) {i : Int} {k : Nat} (hk : k < m.rels.length) (h1 : hitB m i k = true) {l : List Nat} (hl : m.imps.length ≤ l.length) (hs : ∀ x ∈ l, x ≤ 65535) {c d c' d' : Int} (hc : 0 ≤ c ∧ c ≤ 4176) (hd : 0 ≤ d ∧ d ≤ 4176)
    (hc' : 0 ≤ c' ∧ c' ≤ 4176) (hd' : 0 ≤ d' ∧ d' ≤ 4176) (hby : d' - d = c' - c) : wrdW m c' d' l i - wrdW m c d l i = if imp ((rl m k).kind : Int) then 0 else c' - c := by
  obtain ⟨z, hz⟩ := some_wrd h hk h1 hl hs hc hd
  rw [hz c' d' l hc' hd' hl hs, hz c d l hc hd hl hs]
  have h7 := good_rel h hk
  have hv := val_moves (k := ((rl m k).kind : Int)) (wh := ((rl m k).wh : Int)) (l := l) (by omega) (fun hi => by
    have hm := good_most h hk
    obtain ⟨⟨_, _, g3, g4, _⟩, _⟩ := chk_ok h.ck
    have hi := of_decide_eq_false hi
    unfold most at hm
    rw [if_neg (by omega)] at hm
    split at hm <;> omega) hc hd hc' hd' hby
  omega
/-- a word with other slots -/
theorem imports {m : Md} (h : VM.Good m) {i : Int} {k : Nat} (hk : k < m.rels.length) (h1 : hitB m i k = true) {l l' : List Nat} (hl : m.imps.length ≤ l.length) (hs : ∀ x ∈ l, x ≤ 65535) (hl' : m.imps.length ≤ l'.length) (hs' : ∀ x ∈ l', x ≤ 65535) {c d : Int} (hc : 0 ≤ c ∧ c ≤ 4176) (hd : 0 ≤ d ∧ d ≤ 4176) :
    wrdW m c d l' i - wrdW m c d l i = if imp ((rl m k).kind : Int) then ((l'.getD (rl m k).wh 0 : Nat) : Int) - (l.getD (rl m k).wh 0 : Nat) else 0 := by
  obtain ⟨z, hz⟩ := some_wrd h hk h1 hl hs hc hd
  rw [hz c d l' hc hd hl' hs', hz c d l hc hd hl hs]
  have h7 := good_rel h hk
  have hv := val_imports (k := ((rl m k).kind : Int)) (wh := ((rl m k).wh : Int)) (c := c) (d := d) (l := l) (l' := l') (by omega)
  simp only [Int.toNat_natCast] at hv
  omega
/-- does one of the first n relocations name the word, and stand for no import? -/
def mvB (m : Md) (i : Int) (n : Nat) : Bool := (List.range n).any fun k => hitB m i k && !imp ((rl m k).kind : Int)
theorem mv_zero (m : Md) (i : Int) : mvB m i 0 = false := rfl
theorem mv_step {m : Md} (h : VM.Good m) {i : Int} {j rk rt rw : Nat} {cd ok : Bool} {a : Int} (hj : j < m.rels.length) (hr : rl m j = ⟨rk, rt, rw⟩) (hs : spV m.code.length m.data.length i = (cd, a, ok)) :
    mvB m i (j + 1) = (mvB m i j || (ok && decide ((rt : Int) = a) && (dtB rk != cd) && !imp (rk : Int))) := by
  have h7 := good_rel h hj
  rw [hr] at h7
  simp only at h7
  have e : mvB m i (j + 1) = (mvB m i j || (hitB m i j && !imp ((rl m j).kind : Int))) := by
    unfold mvB
    rw [List.range_succ, List.any_append]
    simp
  rw [e]
  congr 1
  cases ok with
  | false => rw [hit_off hs]; rfl
  | true =>
    rw [nm_of hr hs, decide_eq_true h7, dt_inC h7, hr]
    cases VM.inC rk <;> cases cd <;> simp
theorem mv_one {m : Md} (h : VM.Good m) {i : Int} {k : Nat} (hk : k < m.rels.length) (h1 : hitB m i k = true) : mvB m i m.rels.length = !imp ((rl m k).kind : Int) := by
  unfold mvB
  cases hi : imp ((rl m k).kind : Int) with
  | true =>
    rw [Bool.not_true, List.any_eq_false]
    intro j hj hh
    rw [Bool.and_eq_true] at hh
    have := hit_one h (by simpa using hj) hk hh.1 h1
    subst this
    rw [hi] at hh
    simp at hh
  | false =>
    rw [Bool.not_false, List.any_eq_true]
    exact ⟨k, by simpa using hk, by rw [h1, hi]; rfl⟩
theorem mv_none {m : Md} {i : Int} (h : ∀ k, k < m.rels.length → hitB m i k = false) : mvB m i m.rels.length = false := by
  unfold mvB
  rw [List.any_eq_false]
  intro j hj
  rw [h j (by simpa using hj)]
  simp
/-- how far a word moves -/
theorem moves_by {m : Md} (h : VM.Good m) (i : Int) {l : List Nat} (hl : m.imps.length ≤ l.length) (hs : ∀ x ∈ l, x ≤ 65535) {c d c' d' : Int} (hc : 0 ≤ c ∧ c ≤ 4176) (hd : 0 ≤ d ∧ d ≤ 4176)
    (hc' : 0 ≤ c' ∧ c' ≤ 4176) (hd' : 0 ≤ d' ∧ d' ≤ 4176) (hby : d' - d = c' - c) : (wrdW m c' d' l i - wrdW m c d l i) % 4294967296 = if mvB m i m.rels.length then (c' - c) % 4294967296 else 0 := by
  by_cases hh : ∀ k, k < m.rels.length → hitB m i k = false
  · rw [none_wrd hh, none_wrd hh, mv_none hh]
    simp
  · obtain ⟨k, hk⟩ := Classical.not_forall.1 hh
    obtain ⟨hk, h1⟩ := Classical.not_imp.1 hk
    have h1 : hitB m i k = true := by simpa using h1
    rw [moves h hk h1 hl hs hc hd hc' hd' hby, mv_one h hk h1]
    cases imp ((rl m k).kind : Int) <;> simp
/-- what the last of the first n relocations that name the word, and stand for imports, changes -/
def imV (m : Md) (i : Int) (l l' : List Nat) : Nat → Int
  | 0 => 0
  | n + 1 => if hitB m i n && imp ((rl m n).kind : Int) then (((l'.getD (rl m n).wh 0 : Nat) : Int) - (l.getD (rl m n).wh 0 : Nat)) % 4294967296 else imV m i l l' n
theorem im_step {m : Md} (h : VM.Good m) {i : Int} {l l' : List Nat} {j rk rt rw : Nat} {cd ok : Bool} {a : Int} (hj : j < m.rels.length) (hr : rl m j = ⟨rk, rt, rw⟩) (hs : spV m.code.length m.data.length i = (cd, a, ok)) :
    imV m i l l' (j + 1) = if (ok && decide ((rt : Int) = a) && (dtB rk != cd) && imp (rk : Int)) then (((l'.getD rw 0 : Nat) : Int) - (l.getD rw 0 : Nat)) % 4294967296 else imV m i l l' j := by
  have h7 := good_rel h hj
  rw [hr] at h7
  simp only at h7
  have e : hitB m i j = (ok && decide ((rt : Int) = a) && (dtB rk != cd)) := by
    cases ok with
    | false => rw [hit_off hs]; rfl
    | true =>
      rw [nm_of hr hs, decide_eq_true h7, dt_inC h7]
      cases VM.inC rk <;> cases cd <;> simp
  show (if hitB m i j && imp ((rl m j).kind : Int) then _ else _) = _
  rw [e, hr]
theorem im_none {m : Md} {i : Int} {l l' : List Nat} {n : Nat} (h : ∀ k, k < n → (hitB m i k && imp ((rl m k).kind : Int)) = false) : imV m i l l' n = 0 := by
  induction n with
  | zero => rfl
  | succ n ih =>
    show (if hitB m i n && imp ((rl m n).kind : Int) then _ else _) = _
    rw [h n (by omega), if_neg (by decide)]
    exact ih fun k hk => h k (by omega)
theorem im_one {m : Md} (h : VM.Good m) {i : Int} {l l' : List Nat} {k : Nat} (hk : k < m.rels.length) (h1 : hitB m i k = true) (hi : imp ((rl m k).kind : Int) = true) :
    ∀ n, k < n → n ≤ m.rels.length → imV m i l l' n = (((l'.getD (rl m k).wh 0 : Nat) : Int) - (l.getD (rl m k).wh 0 : Nat)) % 4294967296
  | 0, hn, _ => by omega
  | n + 1, hn, hm => by
    show (if hitB m i n && imp ((rl m n).kind : Int) then _ else _) = _
    by_cases e : n = k
    · subst e
      rw [h1, hi]
      rfl
    · cases hh : hitB m i n with
      | true =>
        have := hit_one h (by omega) hk hh h1
        exact absurd this e
      | false =>
        rw [Bool.false_and, if_neg (by decide)]
        exact im_one h hk h1 hi n (by omega) (by omega)
/-- what other slots change of a word -/
theorem imports_by {m : Md} (h : VM.Good m) (i : Int) {l l' : List Nat} (hl : m.imps.length ≤ l.length) (hs : ∀ x ∈ l, x ≤ 65535) (hl' : m.imps.length ≤ l'.length) (hs' : ∀ x ∈ l', x ≤ 65535) {c d : Int} (hc : 0 ≤ c ∧ c ≤ 4176) (hd : 0 ≤ d ∧ d ≤ 4176) :
    (wrdW m c d l' i - wrdW m c d l i) % 4294967296 = imV m i l l' m.rels.length := by
  by_cases hh : ∀ k, k < m.rels.length → hitB m i k = false
  · rw [none_wrd hh, none_wrd hh, im_none (fun k hk => by rw [hh k hk]; rfl)]
    simp
  · obtain ⟨k, hk⟩ := Classical.not_forall.1 hh
    obtain ⟨hk, h1⟩ := Classical.not_imp.1 hk
    have h1 : hitB m i k = true := by simpa using h1
    rw [imports h hk h1 hl hs hl' hs' hc hd]
    cases hi : imp ((rl m k).kind : Int) with
    | true => rw [im_one h hk h1 hi _ hk (Nat.le_refl _)]; rfl
    | false =>
      rw [im_none (fun j hj => ?_)]
      · simp
      · cases hj1 : hitB m i j with
        | false => rfl
        | true =>
          have := hit_one h hj hk hj1 h1
          subst this
          rw [hi]
          rfl
theorem at_where {c d f x y : Int} (h : atP c d f = (x, y, 0)) : x = 80 + 16 * f ∧ y = 80 + 16 * (f + c) := by
  unfold atP at h
  split at h
  · simp at h
  · split at h
    · simp at h
    · simp at h; omega
end Go.Proofs.Ytajidaicojekdaa.KM

/-
  Two rows of words that grow side by side. Nothing here is a statement of the seed.
-/
namespace Go.Proofs.Ytajidaicojekdaa.KF
open Go.RowKit WM NR OM OR VM YM YR RM RF KM
structure Two (W : World) (q1 q2 : Value) (n1 n2 : Nat) (x1 x2 : List Value) (u : World) : Prop where
  r1 : u.ownsRow W.heap.size 46 1 q1 n1 x1
  r2 : u.ownsRow W.heap.size 46 1 q2 n2 x2
  ne : ∀ g, q1.ownBlock = some g → q2.ownBlock ≠ some g
  B : Below W.heap.size W u
theorem Two.swap {W : World} {q1 q2 : Value} {n1 n2 : Nat} {x1 x2 : List Value} {u : World} (h : Two W q1 q2 n1 n2 x1 x2 u) : Two W q2 q1 n2 n1 x2 x1 u := ⟨h.r2, h.r1, fun g h1 h2 => h.ne g h2 h1, h.B⟩
theorem Two.alloc {W : World} {q1 q2 : Value} {n1 n2 : Nat} {x1 x2 : List Value} {u : World} (h : Two W q1 q2 n1 n2 x1 x2 u) (o : Obj) : Two W q1 q2 n1 n2 x1 x2 (u.alloc o) := ⟨h.r1.alloc o, h.r2.alloc o, h.ne, h.B.alloc h.B.size o⟩
theorem Two.drew {W : World} {q1 q2 : Value} {n1 n2 : Nat} {x1 x2 : List Value} {u : World} (h : Two W q1 q2 n1 n2 x1 x2 u) : Two W q1 q2 n1 n2 x1 x2 u.drew := ⟨h.r1, h.r2, h.ne, h.B.drew⟩
/-- one word more behind the first one -/
theorem Two.app {W : World} {q1 q2 : Value} {n1 n2 : Nat} {x1 x2 : List Value} {u : World} (h : Two W q1 q2 n1 n2 x1 x2 u) {b : Nat} {X : Int} (hc : u.cell? ⟨b, 0, none⟩ = some (.int .u32 X)) (hn : n1 ≤ 1000) :
    ∃ v' u', (Builtin.append_ #[36, 36] 36 #[q1, .slice (some ⟨b, 0, none⟩) 1 1]).run Try.prog u = .ok v' u' ∧ Two W v' q2 (n1 + 1) n2 (x1 ++ [.int .u32 X]) x2 u' ∧
      (∀ k, k < u.heap.size → q1.ownBlock ≠ some k → u'.heap[k]? = u.heap[k]?) ∧ u.heap.size ≤ u'.heap.size := by
  obtain ⟨i0, hi, hz0, hz1, hz2⟩ := info_parts infoWord
  obtain ⟨v', u', hr, ho, hg, _, hat⟩ := run_append_own_at (P := Try.prog) u W.heap.size 36 36 46 i0 (.int .u32 0) 1 4 Try.underlying36 hi hz0 hz1 hz2 rfl (by decide) q1 n1 x1 h.r1 ⟨b, 0, none⟩ 1 1 [.int .u32 X] rfl
    (fun j x hj => by
      cases j with
      | zero =>
        simp at hj
        subst hj
        exact hc
      | succ j => simp at hj)
    (fun x hx => by simp at hx; subst hx; rfl) (by unfold maxLen; omega) (by omega) h.B.size
  refine ⟨v', u', hr, ⟨ho, ?_, ?_, ?_⟩, fun k hk hne => hg.block k hk (fun e => hne e.symm), hg.size⟩
  · refine h.r2.kept hg ?_
    cases e : q1.ownBlock with
    | none => cases e2 : q2.ownBlock with
      | none => exact Or.inl rfl
      | some g => exact Or.inr (by simp)
    | some g => exact Or.inr (h.ne g e)
  · intro g hg1 hg2
    rcases hat with e | e
    · exact h.ne g (e ▸ hg1) hg2
    · rw [e] at hg1
      have := (h.r2.lt g hg2).2
      simp at hg1
      omega
  · exact h.B.grown hg h.B.size (fun g hg' => (h.r1.lt g hg').1)
end Go.Proofs.Ytajidaicojekdaa.KF
