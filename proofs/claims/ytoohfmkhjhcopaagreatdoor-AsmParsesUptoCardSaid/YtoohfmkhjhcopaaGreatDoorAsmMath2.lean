/-
  Plain facts on lines of instructions: names, registers, numbers; what is printed, and the one instruction that may have a line. Nothing of the program is used.
-/
import Derived.Test.YtoohfmkhjhcopaaGreatDoorAsmMath
set_option linter.unusedSimpArgs false
set_option linter.unusedVariables false
namespace Go.Proofs.YtoohfmkhjhcopaaGreatDoor.AM
open IM

/-- the operations' names, by their numbers -/
def mnL : List (List UInt8) := [[104, 97, 108, 116], [110, 111, 112], [108, 105], [97, 100, 100], [115, 117, 98], [97, 110, 100], [111, 114], [120, 111, 114], [115, 104, 108], [115, 104, 114], [108, 116], [97, 100, 100, 105], [108, 100], [115, 116], [106, 109, 112], [98, 101, 113], [98, 110, 101], [99, 97, 108, 108], [114, 101, 116], [106, 114], [115, 97, 102, 101], [101, 110, 116, 101, 114]]
def mn (o : Int) : List UInt8 := mnL.getD o.toNat []
theorem ops22 {o : Int} (h : 0 ≤ o ∧ o ≤ 21) : o = 0 ∨ o = 1 ∨ o = 2 ∨ o = 3 ∨ o = 4 ∨ o = 5 ∨ o = 6 ∨ o = 7 ∨ o = 8 ∨ o = 9 ∨ o = 10 ∨ o = 11 ∨ o = 12 ∨ o = 13 ∨ o = 14 ∨ o = 15 ∨ o = 16 ∨ o = 17 ∨ o = 18 ∨ o = 19 ∨ o = 20 ∨ o = 21 := by omega
theorem mn_far {o : Int} (h : 21 < o) : mn o = [] := by
  unfold mn
  rw [List.getD_eq_getElem?_getD, List.getElem?_eq_none (by simp [mnL]; omega)]
  rfl
theorem mn_fine {o : Int} (h : 0 ≤ o ∧ o ≤ 21) : 32 ∉ mn o ∧ 10 ∉ mn o ∧ 2 ≤ (mn o).length ∧ (mn o).length ≤ 5 ∧ (mn o).head? ≠ some 59 ∧ mn o ≠ [119, 111, 114, 100] := by
  rcases ops22 h with rfl | rfl | rfl | rfl | rfl | rfl | rfl | rfl | rfl | rfl | rfl | rfl | rfl | rfl | rfl | rfl | rfl | rfl | rfl | rfl | rfl | rfl <;> decide
/-- which operation has a name: the first one -/
def opOf (l : List UInt8) : Option Nat := mnL.findIdx? (· == l)
theorem opOf_mn {o : Int} (h : 0 ≤ o ∧ o ≤ 21) : opOf (mn o) = some o.toNat := by
  rcases ops22 h with rfl | rfl | rfl | rfl | rfl | rfl | rfl | rfl | rfl | rfl | rfl | rfl | rfl | rfl | rfl | rfl | rfl | rfl | rfl | rfl | rfl | rfl <;> decide
theorem opOf_some {l : List UInt8} {n : Nat} (h : opOf l = some n) : n ≤ 21 ∧ mn (n : Int) = l := by
  unfold opOf at h
  rw [List.findIdx?_eq_some_iff_getElem] at h
  obtain ⟨h1, h2, _⟩ := h
  refine ⟨by simp [mnL] at h1; omega, ?_⟩
  unfold mn
  rw [List.getD_eq_getElem?_getD, Int.toNat_natCast, List.getElem?_eq_getElem h1]
  simpa using h2
theorem opOf_none {l : List UInt8} (h : opOf l = none) {o : Int} (ho : 0 ≤ o ∧ o ≤ 21) : mn o ≠ l := by
  intro e
  rw [← e, opOf_mn ho] at h
  cases h

/-! digits -/
theorem digit_nat (d : Nat) (h : d < 10) : (UInt8.ofNat (48 + d)).toNat = 48 + d := by simp; omega
theorem dec_app (M : Nat) (hM : M ≤ 4294967295) : ∀ (u : Nat), u ≤ M → ∀ r, Lib.parseUintM M 0 (Lib.decDigits u ++ r) = Lib.parseUintM M u r := by
  intro u
  induction u using Nat.strongRecOn with
  | _ u ih =>
    intro hu r
    rw [Lib.decDigits]
    split
    · rename_i h
      show Lib.parseUintM M 0 (UInt8.ofNat (48 + u) :: r) = _
      rw [Lib.parseUintM, digit_nat u h, if_pos (by omega), if_neg (by omega), if_neg (by omega)]
      congr 1
      omega
    · rename_i h
      rw [List.append_assoc, ih (u / 10) (by omega) (by omega)]
      show Lib.parseUintM M (u / 10) (UInt8.ofNat (48 + u % 10) :: r) = _
      rw [Lib.parseUintM, digit_nat (u % 10) (by omega), if_pos (by omega), if_neg (by omega), if_neg (by omega)]
      congr 1
      omega
theorem dec_head (u : Nat) : ∃ c r, Lib.decDigits u = c :: r ∧ 48 ≤ c.toNat ∧ c.toNat ≤ 57 := by
  induction u using Nat.strongRecOn with
  | _ u ih =>
    rw [Lib.decDigits]
    split
    · rename_i h
      exact ⟨_, _, rfl, by rw [digit_nat u h]; omega, by rw [digit_nat u h]; omega⟩
    · rename_i h
      obtain ⟨c, r, e, h1, h2⟩ := ih (u / 10) (by omega)
      exact ⟨c, r ++ [UInt8.ofNat (48 + u % 10)], by rw [e]; rfl, h1, h2⟩
theorem dec_mem (u : Nat) : ∀ c ∈ Lib.decDigits u, 48 ≤ c.toNat ∧ c.toNat ≤ 57 := by
  induction u using Nat.strongRecOn with
  | _ u ih =>
    rw [Lib.decDigits]
    split
    · rename_i h
      intro c hc
      rw [List.mem_singleton] at hc
      subst hc
      rw [digit_nat u h]
      omega
    · rename_i h
      intro c hc
      rcases List.mem_append.1 hc with hc | hc
      · exact ih (u / 10) (by omega) c hc
      · rw [List.mem_singleton] at hc
        subst hc
        rw [digit_nat _ (by omega)]
        omega
theorem itoa_mem (m : Int) : ∀ c ∈ Lib.itoa m, c = 45 ∨ 48 ≤ c.toNat ∧ c.toNat ≤ 57 := by
  unfold Lib.itoa
  split
  · intro c hc
    rcases List.mem_cons.1 hc with rfl | hc
    · exact .inl rfl
    · exact .inr (dec_mem _ c hc)
  · intro c hc
    exact .inr (dec_mem _ c hc)
theorem itoa_ne (m : Int) : Lib.itoa m ≠ [] := by
  unfold Lib.itoa
  split
  · simp
  · obtain ⟨c, r, e, _⟩ := dec_head m.toNat
    rw [e]
    simp
theorem itoa_free (m : Int) : 32 ∉ Lib.itoa m ∧ 10 ∉ Lib.itoa m := by
  constructor
  · intro h
    rcases itoa_mem m _ h with e | e
    · simp at e
    · simp at e
  · intro h
    rcases itoa_mem m _ h with e | e
    · simp at e
    · simp at e
theorem parse_itoa (m : Int) (h : -1048576 ≤ m ∧ m ≤ 1048575) : Lib.parseIntB 32 (Lib.itoa m) = .ok m := by
  have hu : ∀ u : Nat, u ≤ 4294967295 → Lib.parseUintB 32 (Lib.decDigits u) = .ok u := fun u hu => by
    unfold Lib.parseUintB
    obtain ⟨c, r, e, _⟩ := dec_head u
    rw [if_neg (by rw [e]; simp)]
    have := dec_app 4294967295 (by omega) u hu []
    rw [List.append_nil] at this
    exact this
  unfold Lib.itoa
  split
  · rename_i hm
    show (match Lib.parseUintB 32 (if (45 : UInt8).toNat = 43 ∨ (45 : UInt8).toNat = 45 then _ else _) with | Lib.NumEnd.syntax => _ | .range => _ | .ok u => _) = _
    rw [if_pos (by decide), hu _ (by omega)]
    simp
    rw [if_neg (by omega)]
    congr 1
    omega
  · rename_i hm
    obtain ⟨c, r, e, h1, h2⟩ := dec_head m.toNat
    have hc := hu m.toNat (by omega)
    rw [e] at hc ⊢
    show (match Lib.parseUintB 32 (if c.toNat = 43 ∨ c.toNat = 45 then r else c :: r) with | Lib.NumEnd.syntax => _ | .range => _ | .ok u => _) = _
    rw [if_neg (by omega), hc]
    have hn : ¬ c.toNat = 45 := by omega
    simp [hn]
    rw [if_neg (by omega)]
    congr 1
    omega
theorem itoa_reg {d : Int} (h : 0 ≤ d ∧ d ≤ 7) : Lib.itoa d = [UInt8.ofNat (48 + d.toNat)] := by
  unfold Lib.itoa
  rw [if_neg (by omega), Lib.decDigits, dif_pos (by omega)]

/-! what is printed -/
/-- a part of a line, if there is one -/
def seg (u : Bool) (x : List UInt8) : List UInt8 := if u then 32 :: x else []
def rg (r : Int) : List UInt8 := 114 :: Lib.itoa r
def pr (o d a b m : Int) : List UInt8 := mn o ++ (seg (uD o) (rg d) ++ (seg (uA o) (rg a) ++ (seg (uB o) (rg b) ++ seg (uI o) (Lib.itoa m))))

/-! what is guessed -/
def gReg (l : List UInt8) : Int := if (Lib.trimPrefix l [114]).length = 1 then (((Lib.trimPrefix l [114]).headD 0).toNat - 48 : Int) % 256 else 0
def gNum (l : List UInt8) : Int := match Lib.parseIntB 32 l with
  | .ok v => v
  | _ => 0
def gd (u : Bool) (l : List UInt8) : Int := if u then gReg (pre 32 l) else 0
def gm (u : Bool) (l : List UInt8) : Int := if u then gNum (pre 32 l) else 0
def gr (u : Bool) (l : List UInt8) : List UInt8 := if u then post 32 l else l
theorem gReg_rg {d : Int} (h : 0 ≤ d ∧ d ≤ 7) : gReg (rg d) = d := by
  have : d = 0 ∨ d = 1 ∨ d = 2 ∨ d = 3 ∨ d = 4 ∨ d = 5 ∨ d = 6 ∨ d = 7 := by omega
  unfold rg
  rw [itoa_reg h]
  rcases this with rfl | rfl | rfl | rfl | rfl | rfl | rfl | rfl <;> decide
theorem gReg_bd (l : List UInt8) : 0 ≤ gReg l ∧ gReg l ≤ 255 := by
  unfold gReg
  split <;> omega
theorem gNum_itoa {m : Int} (h : -1048576 ≤ m ∧ m ≤ 1048575) : gNum (Lib.itoa m) = m := by
  unfold gNum
  rw [parse_itoa m h]
theorem rg_free {d : Int} (h : 0 ≤ d ∧ d ≤ 7) : 32 ∉ rg d ∧ 10 ∉ rg d := by
  unfold rg
  have := itoa_free d
  simp [this]
/-- a line's parts: each is what stands ahead of a blank, or of the end -/
def Tl (T : List UInt8) : Prop := T = [] ∨ ∃ r, T = 32 :: r
theorem tl_seg {u : Bool} {x T : List UInt8} (h : Tl T) : Tl (seg u x ++ T) := by
  unfold seg
  split
  · exact .inr ⟨_, rfl⟩
  · exact h
theorem tl_seg1 (u : Bool) (x : List UInt8) : Tl (seg u x) := by
  unfold seg
  split
  · exact .inr ⟨_, rfl⟩
  · exact .inl rfl
theorem part {x T : List UInt8} (hx : 32 ∉ x) (h : Tl T) : pre 32 (x ++ T) = x ∧ post 32 (x ++ T) = T.drop 1 := by
  rcases h with rfl | ⟨r, rfl⟩
  · rw [List.append_nil]
    exact pre_none hx
  · exact pre_app hx
theorem next_yes {x T : List UInt8} (hx : 32 ∉ x) (h : Tl T) : pre 32 ((seg true x ++ T).drop 1) = x ∧ post 32 ((seg true x ++ T).drop 1) = T.drop 1 := part hx h
theorem gd_seg {u : Bool} {d : Int} {T : List UInt8} (hd : 0 ≤ d ∧ d ≤ 7) (h0 : u = true ∨ d = 0) (h : Tl T) : gd u ((seg u (rg d) ++ T).drop 1) = d ∧ gr u ((seg u (rg d) ++ T).drop 1) = T.drop 1 := by
  cases u with
  | false => exact ⟨by rcases h0 with h0 | h0; cases h0; subst h0; rfl, rfl⟩
  | true =>
    have := next_yes (rg_free hd).1 h
    exact ⟨by show gReg _ = d; rw [this.1, gReg_rg hd], this.2⟩
theorem gm_seg {u : Bool} {m : Int} (hm : -1048576 ≤ m ∧ m ≤ 1048575) (h0 : u = true ∨ m = 0) : gm u ((seg u (Lib.itoa m)).drop 1) = m := by
  cases u with
  | false => rcases h0 with h0 | h0; cases h0; subst h0; rfl
  | true =>
    have := next_yes (T := []) (itoa_free m).1 (.inl rfl)
    rw [List.append_nil] at this
    show gNum _ = m
    rw [this.1, gNum_itoa hm]

/-- an instruction -/
abbrev I5 := Int × Int × Int × Int × Int
def iOk (i : I5) : Prop := InsOk i.1 i.2.1 i.2.2.1 i.2.2.2.1 i.2.2.2.2
def prI (i : I5) : List UInt8 := pr i.1 i.2.1 i.2.2.1 i.2.2.2.1 i.2.2.2.2
def chkI (i : I5) : Int := chk i.1 i.2.1 i.2.2.1 i.2.2.2.1 i.2.2.2.2
def gIns (n : Nat) (l : List UInt8) : I5 :=
  (n, gd (uD n) l, gd (uA n) (gr (uD n) l), gd (uB n) (gr (uA n) (gr (uD n) l)), gm (uI n) (gr (uB n) (gr (uA n) (gr (uD n) l))))
/-- the instruction that the program guesses -/
def guess (l : List UInt8) : Option I5 := (opOf (pre 32 l)).map fun n => gIns n (post 32 l)
/-- the one whose line it is -/
def pC (l : List UInt8) : Option I5 := match guess l with
  | some i => if chkI i = 0 ∧ prI i = l then some i else none
  | none => none
theorem gd_bd (u : Bool) (l : List UInt8) : 0 ≤ gd u l ∧ gd u l ≤ 255 := by
  unfold gd
  split
  · exact gReg_bd _
  · omega
theorem gIns_pr {o d a b m : Int} (h : InsOk o d a b m) : opOf (pre 32 (pr o d a b m)) = some o.toNat ∧ gIns o.toNat (post 32 (pr o d a b m)) = (o, d, a, b, m) := by
  have h' := h
  unfold InsOk at h'
  have hO : (0 : Int) ≤ o ∧ o ≤ 21 := by omega
  have hn : ((o.toNat : Nat) : Int) = o := by omega
  have uu : (uD o = true ∨ d = 0) ∧ (uA o = true ∨ a = 0) ∧ (uB o = true ∨ b = 0) ∧ (uI o = true ∨ m = 0) := by
    unfold uD uA uB uI
    simp only [decide_eq_true_eq]
    omega
  have p0 := part (mn_fine hO).1 (tl_seg (u := uD o) (x := rg d) (tl_seg (u := uA o) (x := rg a) (tl_seg (u := uB o) (x := rg b) (tl_seg1 (uI o) (Lib.itoa m)))))
  have p1 := gd_seg (u := uD o) (d := d) (by omega) uu.1 (tl_seg (u := uA o) (x := rg a) (tl_seg (u := uB o) (x := rg b) (tl_seg1 (uI o) (Lib.itoa m))))
  have p2 := gd_seg (u := uA o) (d := a) (by omega) uu.2.1 (tl_seg (u := uB o) (x := rg b) (tl_seg1 (uI o) (Lib.itoa m)))
  have p3 := gd_seg (u := uB o) (d := b) (by omega) uu.2.2.1 (tl_seg1 (uI o) (Lib.itoa m))
  have p4 := gm_seg (u := uI o) (m := m) (by omega) uu.2.2.2
  refine ⟨by unfold pr; rw [p0.1, opOf_mn hO], ?_⟩
  unfold gIns pr
  rw [hn, p0.2, p1.1, p1.2, p2.1, p2.2, p3.1, p3.2, p4]
theorem guess_pr {i : I5} (h : iOk i) : guess (prI i) = some i := by
  obtain ⟨o, d, a, b, m⟩ := i
  have h' := gIns_pr (show InsOk o d a b m from h)
  unfold guess prI
  rw [h'.1]
  exact congrArg some h'.2
theorem chkI_ok {i : I5} (h0 : 0 ≤ i.1) (h1 : 0 ≤ i.2.1) (h2 : 0 ≤ i.2.2.1) (h3 : 0 ≤ i.2.2.2.1) : chkI i = 0 ↔ iOk i := chk_good h0 h1 h2 h3
theorem guess_bd {l : List UInt8} {i : I5} (h : guess l = some i) : (0 ≤ i.1 ∧ i.1 ≤ 21) ∧ (0 ≤ i.2.1 ∧ i.2.1 ≤ 255) ∧ (0 ≤ i.2.2.1 ∧ i.2.2.1 ≤ 255) ∧ (0 ≤ i.2.2.2.1 ∧ i.2.2.2.1 ≤ 255) := by
  unfold guess at h
  obtain ⟨n, hn, rfl⟩ := Option.map_eq_some_iff.1 h
  have := opOf_some hn
  exact ⟨⟨by show (0 : Int) ≤ (n : Int); omega, by show (n : Int) ≤ 21; omega⟩, gd_bd _ _, gd_bd _ _, gd_bd _ _⟩
theorem pC_iff {l : List UInt8} {i : I5} : pC l = some i ↔ iOk i ∧ prI i = l := by
  constructor
  · intro h
    unfold pC at h
    cases g : guess l with
    | none => rw [g] at h; cases h
    | some j =>
      rw [g] at h
      simp only at h
      split at h
      · rename_i hc
        obtain rfl := Option.some.inj h
        have bd := guess_bd g
        exact ⟨(chkI_ok bd.1.1 bd.2.1.1 bd.2.2.1.1 bd.2.2.2.1).1 hc.1, hc.2⟩
      · cases h
  · rintro ⟨h, rfl⟩
    unfold pC
    rw [guess_pr h]
    have h' := h
    unfold iOk InsOk at h'
    simp only
    rw [if_pos ⟨(chkI_ok (by omega) (by omega) (by omega) (by omega)).2 h, trivial⟩]
theorem pC_pr {i : I5} (h : iOk i) : pC (prI i) = some i := pC_iff.2 ⟨h, rfl⟩
theorem prI_inj {i j : I5} (hi : iOk i) (hj : iOk j) (e : prI i = prI j) : i = j := by
  have := pC_pr hi
  rw [e, pC_pr hj] at this
  exact (Option.some.inj this).symm
end Go.Proofs.YtoohfmkhjhcopaaGreatDoor.AM
