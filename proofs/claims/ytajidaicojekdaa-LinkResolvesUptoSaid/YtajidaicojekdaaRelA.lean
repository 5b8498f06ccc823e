/-
  Joined texts: RelMath, RelFn, RelPut, RelUndo. Nothing here is a statement of the seed.
-/
import Derived.Test.YtajidaicojekdaaIsaA
import Derived.Deep.RegionHeld3
import Derived.Deep.QuietTactic
set_option linter.unusedSimpArgs false
set_option linter.unusedVariables false
/-
  Plain facts on addresses in words, as numbers. Nothing of the program is used.
-/
namespace Go.Proofs.Ytajidaicojekdaa.RM
open WM IM

/-- a kind that stands for an import's slot -/
def imp (k : Int) : Bool := decide (k = 0 ∨ k = 1 ∨ k = 4)
/-- a kind whose word is the address itself -/
def whole (k : Int) : Bool := decide (k = 4 ∨ k = 5 ∨ k = 6)
/-- a kind of code's words -/
def inC (k : Int) : Bool := decide (k = 0 ∨ k = 1 ∨ k = 2 ∨ k = 3 ∨ k = 7)
/-- the operation of a kind's words -/
def opK (k : Int) : Int := if k = 0 ∨ k = 7 then 17 else 2
/-- which register the instruction without an address has -/
def dK (k d : Int) : Int := if k = 0 ∨ k = 7 then 0 else d
def rch (k : Int) : Int := if 7 < k then 0 else if inC k then 1048575 else 4294967295
/-- a word of the kind, whatever address it has -/
def opB (x k : Int) : Bool := hasB x && decide (pO x = opK k)
/-- a relocation's address -/
def valA (k i c d : Int) (l : List Nat) : Int := if 7 < k then 0 else if imp k then (l.getD i.toNat 0 : Nat) else if k = 2 ∨ k = 5 then (d + i) % 4294967296 else (c + i) % 4294967296
def valE (k i : Int) (l : List Nat) : Int := if 7 < k ∨ imp k ∧ (l.length : Int) ≤ i then 2 else 0
/-- a word with an address -/
def putW (x k v : Int) : Int := enc (opK k) (pD x) 0 0 v
def apE (x k v : Int) : Int := if 7 < k then 2 else if inC k = false then 0 else if (opB x k && decide (pM x = 0)) = false then 10 else if 1048575 < v then 30 else 0
def apW (x k v : Int) : Int := if apE x k v = 0 then if inC k then putW x k v else v else 0
def unE (x k : Int) : Int := if 7 < k then 2 else if inC k = false then 0 else if (opB x k && decide (0 ≤ pM x)) = false then 10 else 0
def unW (x k : Int) : Int := if unE x k = 0 then if inC k then putW x k 0 else 0 else 0

theorem opK_cases (k : Int) : opK k = 17 ∨ opK k = 2 := by unfold opK; split <;> simp
theorem whole_inC {k : Int} (h : 0 ≤ k ∧ k ≤ 7) : whole k = !inC k := by
  unfold whole inC
  rw [Bool.eq_iff_iff]
  simp
  omega
/-- a word of the kind: what its parts are -/
theorem of_op {x k : Int} (hx : 0 ≤ x ∧ x ≤ 4294967295) (h : opB x k = true) : pO x = opK k ∧ pD x = dK k (pD x) ∧ pA x = 0 ∧ pB x = 0 ∧ (0 ≤ pD x ∧ pD x ≤ 7) ∧ InsOk (pO x) (pD x) (pA x) (pB x) (pM x) ∧ enc (pO x) (pD x) (pA x) (pB x) (pM x) = x := by
  unfold opB at h
  rw [Bool.and_eq_true, decide_eq_true_eq] at h
  obtain ⟨h1, h2⟩ := h
  obtain ⟨g1, g2⟩ := has_good hx h1
  have g := g1
  unfold InsOk at g
  unfold dK
  unfold opK at h2 ⊢
  refine ⟨h2, ?_, ?_, ?_, ?_, g1, g2⟩
  · split at h2 <;> split <;> omega
  · split at h2 <;> omega
  · split at h2 <;> omega
  · omega
/-- the word with an address may be -/
theorem put_ok {x k v : Int} (hx : 0 ≤ x ∧ x ≤ 4294967295) (h : opB x k = true) (hv : 0 ≤ v ∧ v ≤ 1048575) : InsOk (opK k) (pD x) 0 0 v := by
  obtain ⟨h1, h2, h3, h4, h5, h6, h7⟩ := of_op hx h
  rw [h1, h3, h4] at h6
  unfold InsOk at h6 ⊢
  rcases opK_cases k with e | e <;> rw [e] at h6 ⊢ <;> omega
theorem put_bd {x k v : Int} (hx : 0 ≤ x ∧ x ≤ 4294967295) (h : opB x k = true) (hv : 0 ≤ v ∧ v ≤ 1048575) : 0 ≤ putW x k v ∧ putW x k v ≤ 4294967295 := enc_bd (put_ok hx h hv)
/-- the parts of the word with an address -/
theorem put_parts {x k v : Int} (hx : 0 ≤ x ∧ x ≤ 4294967295) (h : opB x k = true) (hv : 0 ≤ v ∧ v ≤ 1048575) :
    hasB (putW x k v) = true ∧ pO (putW x k v) = opK k ∧ pD (putW x k v) = pD x ∧ pA (putW x k v) = 0 ∧ pB (putW x k v) = 0 ∧ pM (putW x k v) = v := by
  have g := put_ok hx h hv
  obtain ⟨e1, e2, e3, e4, e5⟩ := parts_enc g
  exact ⟨has_enc g, e1, e2, e3, e4, e5⟩
theorem put_op {x k v : Int} (hx : 0 ≤ x ∧ x ≤ 4294967295) (h : opB x k = true) (hv : 0 ≤ v ∧ v ≤ 1048575) : opB (putW x k v) k = true := by
  obtain ⟨e1, e2, _⟩ := put_parts hx h hv
  unfold opB
  rw [e1, e2]
  simp
/-- what has no address stands again -/
theorem put_zero {x k : Int} (hx : 0 ≤ x ∧ x ≤ 4294967295) (h : opB x k = true) (hm : pM x = 0) : putW x k 0 = x := by
  obtain ⟨h1, h2, h3, h4, h5, h6, h7⟩ := of_op hx h
  rw [h1, h3, h4, hm] at h7
  exact h7
theorem put_put {x k v : Int} (hx : 0 ≤ x ∧ x ≤ 4294967295) (h : opB x k = true) (hv : 0 ≤ v ∧ v ≤ 1048575) (u : Int) : putW (putW x k v) k u = putW x k u := by
  obtain ⟨e1, e2, e3, _⟩ := put_parts hx h hv
  unfold putW at *
  rw [e3]
end Go.Proofs.Ytajidaicojekdaa.RM

/-
  What the small functions of package reloc and of its reference tell, call by call. Nothing here is a statement of the seed.
-/
namespace Go.Proofs.Ytajidaicojekdaa.RF
open Go.RowKit WM IM WF IF RM

theorem isWhole_any (k : Int) (w : World) (hk : 0 ≤ k ∧ k ≤ 255) :
    Calls Try.prog 72 #[.int .u8 k] w fun e w' => e = .returned (.bool (whole k)) ∧ w = w' := by
  obtain ⟨h1, h2⟩ := hk
  go_enter Try.func72, Try.ntmps72
  go_wp2
  all_goals go_ret
  all_goals refine ⟨ret_bool ?_, rfl⟩
  all_goals try simp only [beq_iff_eq, beq_eq_false_iff_ne, ne_eq] at *
  all_goals unfold whole
  all_goals rw [Bool.eq_iff_iff]
  all_goals simp
  all_goals omega
theorem inCode_any (k : Int) (w : World) (hk : 0 ≤ k ∧ k ≤ 255) :
    Calls Try.prog 48 #[.int .u8 k] w fun e w' => e = .returned (.bool (inC k)) ∧ w = w' := by
  obtain ⟨h1, h2⟩ := hk
  go_enter Try.func48, Try.ntmps48
  go_wp2
  all_goals go_ret
  all_goals refine ⟨ret_bool ?_, rfl⟩
  all_goals try simp only [beq_iff_eq, beq_eq_false_iff_ne, ne_eq] at *
  all_goals unfold inC
  all_goals rw [Bool.eq_iff_iff]
  all_goals simp
  all_goals omega
theorem import_any (k : Int) (w : World) (hk : 0 ≤ k ∧ k ≤ 255) :
    Calls Try.prog 78 #[.int .u8 k] w fun e w' => e = .returned (.bool (imp k)) ∧ w = w' := by
  obtain ⟨h1, h2⟩ := hk
  go_enter Try.func78, Try.ntmps78
  go_wp2
  all_goals go_ret
  all_goals refine ⟨ret_bool ?_, rfl⟩
  all_goals try simp only [beq_iff_eq, beq_eq_false_iff_ne, ne_eq] at *
  all_goals unfold imp
  all_goals rw [Bool.eq_iff_iff]
  all_goals simp
  all_goals omega
theorem op_any (k : Int) (w : World) (hk : 0 ≤ k ∧ k ≤ 255) :
    Calls Try.prog 80 #[.int .u8 k] w fun e w' => e = .returned (.int .u8 (opK k)) ∧ w = w' := by
  obtain ⟨h1, h2⟩ := hk
  go_enter Try.func80, Try.ntmps80
  go_wp2
  all_goals go_ret
  all_goals refine ⟨ret_int ?_, rfl⟩
  all_goals try simp only [beq_iff_eq, beq_eq_false_iff_ne, ne_eq] at *
  all_goals unfold opK
  all_goals simp
  all_goals omega
theorem reach_any (k : Int) (w : World) (hk : 0 ≤ k ∧ k ≤ 255) :
    Calls Try.prog 75 #[.int .u8 k] w fun e w' => e = .returned (.int .u32 (rch k)) ∧ w = w' := by
  have C := Lib.hid (fun w => isWhole_any k w hk)
  have E := Lib.hid (show ¬ 7 < k → whole k = !inC k from fun h => whole_inC ⟨hk.1, by omega⟩)
  obtain ⟨h1, h2⟩ := hk
  generalize whole k = q at *
  go_enter Try.func75, Try.ntmps75
  go_wp2_with (first | (go_at_call 72; refine (C.out _).mono ?_; rintro e w' ⟨rfl, rfl⟩))
  all_goals go_ret
  all_goals refine ⟨ret_int ?_, rfl⟩
  all_goals have E := E.out
  all_goals unfold rch
  all_goals first | (rw [if_pos (by omega)]; done) | (rw [if_neg (by omega), show inC k = !q from by rw [E (by omega)]; simp]; simp_all)
theorem refReach_any (k : Int) (w : World) (hk : 0 ≤ k ∧ k ≤ 255) :
    Calls Try.prog 81 #[.int .u8 k] w fun e w' => e = .returned (.int .u32 (rch k)) ∧ w = w' := by
  have C := Lib.hid (fun w => inCode_any k w hk)
  obtain ⟨h1, h2⟩ := hk
  unfold rch
  generalize inC k = q at *
  go_enter Try.func81, Try.ntmps81
  go_wp2_with (first | (go_at_call 48; refine (C.out _).mono ?_; rintro e w' ⟨rfl, rfl⟩))
  all_goals go_ret
  all_goals refine ⟨ret_int ?_, rfl⟩
  all_goals first | rfl | (split <;> (try omega) <;> simp_all)
theorem blank_any (k d : Int) (hk : 0 ≤ k ∧ k ≤ 255) (hd : 0 ≤ d ∧ d ≤ 255) :
    Says Try.prog 74 #[.int .u8 k, .int .u8 d] (insV (opK k) (dK k d) 0 0 0) := by
  intro w
  obtain ⟨h1, h2⟩ := hk
  obtain ⟨h3, h4⟩ := hd
  go_enter Try.func74, Try.ntmps74
  go_wp2
  all_goals try simp only [beq_iff_eq, beq_eq_false_iff_ne, ne_eq] at *
  all_goals refine bodyPost_ret (v := insV (opK k) (dK k d) 0 0 0) ?_ rfl ⟨rfl, ?_⟩
  all_goals first | exact below_new _ _ | (simp [results, Try.results74, go_sem, opK, dK, *]; done)
end Go.Proofs.Ytajidaicojekdaa.RF

/-
  The program's Apply and Undo, call by call. Nothing here is a statement of the seed.
-/
namespace Go.Proofs.Ytajidaicojekdaa.RF
open Go.RowKit WM IM WF IF RM

theorem below_drew_iff {B : Nat} {a w : World} : Below B a w.drew ↔ Below B a w := ⟨fun h => ⟨h.os, h.tape, h.output, h.size, h.block⟩, fun h => h.drew⟩
/-- an instruction's cells stand there, and all that was there -/
def Stood (B : Nat) (w : World) (o d a b m : Int) (u : World) : Prop := u.cell? ⟨B, 0, none⟩ = some (.int .u8 o) ∧ u.cell? ⟨B, 1, none⟩ = some (.int .u8 d) ∧ u.cell? ⟨B, 2, none⟩ = some (.int .u8 a) ∧ u.cell? ⟨B, 3, none⟩ = some (.int .u8 b) ∧
  u.cell? ⟨B, 4, none⟩ = some (.int .i32 m) ∧ u.frozen? ⟨B, 4, none⟩ = false ∧ B < u.heap.size ∧ Below w.heap.size w u
theorem stood_in {f : FuncId} {args : Array Value} {v : Value} (C : Says Try.prog f args v) (B : Nat) (w : World) (o d a b m : Int) (u : World) (h : Stood B w o d a b m u) :
    Calls Try.prog f args u fun e w' => e = .returned v ∧ Stood B w o d a b m w' :=
  (C u).mono fun e w' ⟨he, hb⟩ => ⟨he, by
    obtain ⟨h0, h1, h2, h3, h4, hz, h5, h6⟩ := h
    have k : ∀ j : Nat, w'.cell? ⟨B, j, none⟩ = u.cell? ⟨B, j, none⟩ := fun j => hb.cell (p := ⟨B, j, none⟩) h5
    exact ⟨(k 0).trans h0, (k 1).trans h1, (k 2).trans h2, (k 3).trans h3, (k 4).trans h4, (hb.frozen (p := ⟨B, 4, none⟩) h5).trans hz, Nat.lt_of_lt_of_le h5 hb.size, h6.trans (hb.mono h6.size)⟩⟩
/-- two instructions held against one another -/
theorem neq_ins (o d a b m o' d' a' b' m' : Int) (w : World) : (binOp .neq 133 (insV o d a b m) (insV o' d' a' b' m')).run Try.prog w = .ok (.bool (!decide (o = o' ∧ d = d' ∧ a = a' ∧ b = b' ∧ m = m'))) w := by
  rw [run_neq_struct, show (10000:Nat) = 9999+1 from rfl, run_equalIn_agg w 9999 _ _ _ (by kernel_rfl) (by kernel_rfl)]
  rw [show (Try.prog.fieldsOf 133) = _ from by unfold Program.fieldsOf; rw [Try.underlying133]]
  simp [Op.eqFields, go_sem, Try.underlying131, Try.underlying5, Try.underlying21]
  by_cases h1 : o = o' <;> by_cases h2 : d = d' <;> by_cases h3 : a = a' <;> by_cases h4 : b = b' <;> by_cases h5 : m = m' <;> simp [h1, h2, h3, h4, h5]
theorem apply_out (x k v : Int) (hk : 7 < k ∧ k ≤ 255) : Says Try.prog 45 #[.int .u32 x, .int .u8 k, .int .u32 v] (.tuple #[.int .u32 0, .int .i64 2]) := by
  intro w
  obtain ⟨h1, h2⟩ := hk
  go_enter Try.func45, Try.ntmps45
  go_wp2
  exact bodyPost_ret (v := .tuple #[.int .u32 0, .int .i64 2]) (by simp [results, Try.results45, go_sem]) rfl ⟨rfl, Below.refl _ _⟩
theorem apply_whole (x k v : Int) (hk : 0 ≤ k ∧ k ≤ 7) (hw : whole k = true) : Says Try.prog 45 #[.int .u32 x, .int .u8 k, .int .u32 v] (.tuple #[.int .u32 v, .int .i64 0]) := by
  intro w
  have C := Lib.hid (fun w => isWhole_any k w ⟨hk.1, by omega⟩)
  rw [hw] at C
  obtain ⟨h1, h2⟩ := hk
  clear hw
  go_enter Try.func45, Try.ntmps45
  go_wp2_with (first | (go_at_call 72; refine (C.out _).mono ?_; rintro e w' ⟨rfl, rfl⟩))
  exact bodyPost_ret (v := .tuple #[.int .u32 v, .int .i64 0]) (by simp [results, Try.results45, go_sem]) rfl ⟨rfl, Below.refl _ _⟩
/-- Apply, by what its calls tell -/
theorem apply_code (x k v o d a b m K o' d' E r : Int) (hk : 0 ≤ k ∧ k ≤ 7) (CW : ∀ w, Calls Try.prog 72 #[.int .u8 k] w fun e w' => e = .returned (.bool false) ∧ w = w')
    (CD : Says Try.prog 73 #[.int .u32 x] (.tuple #[insV o d a b m, .int .i64 K]))
    (CB : Says Try.prog 74 #[.int .u8 k, .int .u8 d] (insV o' d' 0 0 0))
    (CR : ∀ w, Calls Try.prog 75 #[.int .u8 k] w fun e w' => e = .returned (.int .u32 1048575) ∧ w = w')
    (CE : r = 0 → Says Try.prog 76 #[insV o d a b v] (.tuple #[.int .u32 E, .int .i64 0])) (hv : 0 ≤ v ∧ v ≤ 4294967295)
    (h : (K != 0) = true ∧ r = 10 ∨ K = 0 ∧ ¬ (o = o' ∧ d = d' ∧ a = 0 ∧ b = 0 ∧ m = 0) ∧ r = 10 ∨ K = 0 ∧ (o = o' ∧ d = d' ∧ a = 0 ∧ b = 0 ∧ m = 0) ∧ 1048575 < v ∧ r = 30 ∨ K = 0 ∧ (o = o' ∧ d = d' ∧ a = 0 ∧ b = 0 ∧ m = 0) ∧ v ≤ 1048575 ∧ r = 0) :
    Says Try.prog 45 #[.int .u32 x, .int .u8 k, .int .u32 v] (.tuple #[.int .u32 (if r = 0 then E else 0), .int .i64 r]) := by
  intro w
  obtain ⟨h1, h2⟩ := hk
  obtain ⟨hv1, hv2⟩ := hv
  have TW := Lib.hid CW
  have TD := Lib.hid CD
  have TB := Lib.hid CB
  have TR := Lib.hid CR
  clear CW CD CB CR
  rcases h with ⟨hK, rfl⟩ | ⟨rfl, hn, rfl⟩ | ⟨rfl, ⟨rfl, rfl, rfl, rfl, rfl⟩, hf, rfl⟩ | ⟨rfl, ⟨rfl, rfl, rfl, rfl, rfl⟩, hf, rfl⟩
  · clear CE
    go_enter Try.func45, Try.ntmps45
    go_wp2_with (first | (go_at_call 72; refine (TW.out _).mono ?_; rintro e w' ⟨rfl, rfl⟩) | (go_at_call 73; refine (TD.out.at _).mono ?_; rintro e w1 ⟨rfl, hb⟩; obtain ⟨hc, hf⟩ := bcell hb))
    exact bodyPost_ret (v := .tuple #[.int .u32 0, .int .i64 10]) (by simp [results, Try.results45, go_sem]) rfl ⟨rfl, hb.alloc hb.size _⟩
  · clear CE
    go_enter Try.func45, Try.ntmps45
    go_wp2_with (first | (go_at_call 72; refine (TW.out _).mono ?_; rintro e w' ⟨rfl, rfl⟩) | (go_at_call 73; refine (TD.out.at _).mono ?_; rintro e w1 ⟨rfl, hb⟩; obtain ⟨hc, hf⟩ := bcell hb))
    have eN : ∀ u, (binOp .neq 133 (insV o d a b m) (insV o' d' 0 0 0)).run Try.prog u = .ok (.bool true) u := fun u => (neq_ins o d a b m o' d' 0 0 0 u).trans (by rw [decide_eq_false hn]; rfl)
    have hba := fun ob => hb.alloc hb.size ob
    go_region_held3 (fun u => u.cell? ⟨w1.heap.size, 0, none⟩ = some (.int .u8 o) ∧ u.cell? ⟨w1.heap.size, 1, none⟩ = some (.int .u8 d) ∧ u.cell? ⟨w1.heap.size, 2, none⟩ = some (.int .u8 a) ∧ u.cell? ⟨w1.heap.size, 3, none⟩ = some (.int .u8 b) ∧ u.cell? ⟨w1.heap.size, 4, none⟩ = some (.int .i32 m) ∧ u.frozen? ⟨w1.heap.size, 4, none⟩ = false ∧ w1.heap.size < u.heap.size ∧ Below w.heap.size w u)
      (first | (simp [*, World.cell?_alloc_some, below_drew_iff, below_new]; done) | (simp [*, World.cell?_alloc_some, below_drew_iff, below_new]; omega))
      (first | (go_at_call 74; refine (stood_in TB.out w1.heap.size w o d a b m _ (by simp [Stood, *])).mono ?_; rintro e w' ⟨rfl, g0, g1, g2, g3, g4, gz, g5, g6⟩))
    go_wp2
    exact bodyPost_ret (v := .tuple #[.int .u32 0, .int .i64 10]) (by simp [results, Try.results45, go_sem, *]) rfl ⟨rfl, g6⟩
  · clear CE
    have eN : ∀ u, (binOp .neq 133 (insV o d 0 0 0) (insV o d 0 0 0)).run Try.prog u = .ok (.bool false) u := fun u => (neq_ins o d 0 0 0 o d 0 0 0 u).trans (by simp)
    go_enter Try.func45, Try.ntmps45
    go_wp2_with (first | (go_at_call 72; refine (TW.out _).mono ?_; rintro e w' ⟨rfl, rfl⟩) | (go_at_call 73; refine (TD.out.at _).mono ?_; rintro e w1 ⟨rfl, hb⟩; obtain ⟨hc, hg⟩ := bcell hb))
    have hba := fun ob => hb.alloc hb.size ob
    go_region_held3 (fun u => u.cell? ⟨w1.heap.size, 0, none⟩ = some (.int .u8 o) ∧ u.cell? ⟨w1.heap.size, 1, none⟩ = some (.int .u8 d) ∧ u.cell? ⟨w1.heap.size, 2, none⟩ = some (.int .u8 0) ∧ u.cell? ⟨w1.heap.size, 3, none⟩ = some (.int .u8 0) ∧ u.cell? ⟨w1.heap.size, 4, none⟩ = some (.int .i32 0) ∧ u.frozen? ⟨w1.heap.size, 4, none⟩ = false ∧ w1.heap.size < u.heap.size ∧ Below w.heap.size w u)
      (first | (simp [*, World.cell?_alloc_some, below_drew_iff, below_new]; done) | (simp [*, World.cell?_alloc_some, below_drew_iff, below_new]; omega))
      (first | (go_at_call 74; refine (stood_in TB.out w1.heap.size w o d 0 0 0 _ (by simp [Stood, *])).mono ?_; rintro e w' ⟨rfl, g0, g1, g2, g3, g4, gz, g5, g6⟩))
    go_wp2_with (first | (go_at_call 75; refine (TR.out _).mono ?_; rintro e w5 ⟨rfl, rfl⟩))
    exact bodyPost_ret (v := .tuple #[.int .u32 0, .int .i64 30]) (by simp [results, Try.results45, go_sem, *]) rfl ⟨rfl, g6⟩
  · have TE := Lib.hid (CE rfl)
    clear CE
    have eN : ∀ u, (binOp .neq 133 (insV o d 0 0 0) (insV o d 0 0 0)).run Try.prog u = .ok (.bool false) u := fun u => (neq_ins o d 0 0 0 o d 0 0 0 u).trans (by simp)
    go_enter Try.func45, Try.ntmps45
    go_wp2_with (first | (go_at_call 72; refine (TW.out _).mono ?_; rintro e w' ⟨rfl, rfl⟩) | (go_at_call 73; refine (TD.out.at _).mono ?_; rintro e w1 ⟨rfl, hb⟩; obtain ⟨hc, hg⟩ := bcell hb))
    have hba := fun ob => hb.alloc hb.size ob
    go_region_held3 (fun u => u.cell? ⟨w1.heap.size, 0, none⟩ = some (.int .u8 o) ∧ u.cell? ⟨w1.heap.size, 1, none⟩ = some (.int .u8 d) ∧ u.cell? ⟨w1.heap.size, 2, none⟩ = some (.int .u8 0) ∧ u.cell? ⟨w1.heap.size, 3, none⟩ = some (.int .u8 0) ∧ u.cell? ⟨w1.heap.size, 4, none⟩ = some (.int .i32 0) ∧ u.frozen? ⟨w1.heap.size, 4, none⟩ = false ∧ w1.heap.size < u.heap.size ∧ Below w.heap.size w u)
      (first | (simp [*, World.cell?_alloc_some, below_drew_iff, below_new]; done) | (simp [*, World.cell?_alloc_some, below_drew_iff, below_new]; omega))
      (first | (go_at_call 74; refine (stood_in TB.out w1.heap.size w o d 0 0 0 _ (by simp [Stood, *])).mono ?_; rintro e w' ⟨rfl, g0, g1, g2, g3, g4, gz, g5, g6⟩))
    go_wp2_with (first | (go_at_call 75; refine (TR.out _).mono ?_; rintro e w5 ⟨rfl, rfl⟩) | (go_at_call 76; refine (TE.out.at _).mono ?_; rintro e w6 ⟨rfl, hb6⟩; obtain ⟨hc6, hf6⟩ := bcell hb6))
    exact bodyPost_ret (v := .tuple #[.int .u32 E, .int .i64 0]) (by simp [results, Try.results45, go_sem, *]) rfl ⟨rfl, (g6.setCell hb.size _).trans (hb6.mono (by have := g6.size; simpa using this))⟩
end Go.Proofs.Ytajidaicojekdaa.RF

/-
  The program's Undo, call by call. Nothing here is a statement of the seed.
-/
namespace Go.Proofs.Ytajidaicojekdaa.RF
open Go.RowKit WM IM WF IF RM

theorem code_of {k : Int} (hk : 0 ≤ k ∧ k ≤ 7) (hw : whole k = false) : inC k = true ∧ rch k = 1048575 := by
  have h : inC k = true := by have := whole_inC hk; rw [hw] at this; simpa using this
  refine ⟨h, ?_⟩
  unfold rch
  rw [if_neg (by omega), if_pos h]
theorem whole_of {k : Int} (hk : 0 ≤ k ∧ k ≤ 7) (hw : whole k = true) : inC k = false := by
  have := whole_inC hk
  rw [hw] at this
  simpa using this
theorem same_word {x k : Int} (hx : 0 ≤ x ∧ x ≤ 4294967295) (hh : hasB x = true) : (pO x = opK k ∧ pD x = dK k (pD x) ∧ pA x = 0 ∧ pB x = 0) ↔ opB x k = true := by
  constructor
  · intro h
    unfold opB
    rw [hh, decide_eq_true h.1]
    rfl
  · intro h
    obtain ⟨h1, h2, h3, h4, _⟩ := of_op hx h
    exact ⟨h1, h2, h3, h4⟩
theorem apply_any (x k v : Int) (hx : 0 ≤ x ∧ x ≤ 4294967295) (hk : 0 ≤ k ∧ k ≤ 255) (hv : 0 ≤ v ∧ v ≤ 4294967295) :
    Says Try.prog 45 #[.int .u32 x, .int .u8 k, .int .u32 v] (.tuple #[.int .u32 (apW x k v), .int .i64 (apE x k v)]) := by
  by_cases h7 : 7 < k
  · have e : apE x k v = 2 := by unfold apE; rw [if_pos h7]
    have e2 : apW x k v = 0 := by unfold apW; rw [e]; rfl
    rw [e, e2]
    exact apply_out x k v ⟨h7, hk.2⟩
  · have hk7 : 0 ≤ k ∧ k ≤ 7 := ⟨hk.1, by omega⟩
    cases hw : whole k with
    | true =>
      have hc := whole_of hk7 hw
      have e : apE x k v = 0 := by unfold apE; rw [if_neg h7, if_pos hc]
      have e2 : apW x k v = v := by unfold apW; rw [e, hc]; rfl
      rw [e, e2]
      exact apply_whole x k v hk7 hw
    | false =>
      obtain ⟨hc, hr⟩ := code_of hk7 hw
      have CW := fun w => isWhole_any k w hk
      rw [hw] at CW
      have CR := fun w => reach_any k w hk
      rw [hr] at CR
      have CD := decode_any x hx
      unfold decV at CD
      have eE : apE x k v = if (opB x k && decide (pM x = 0)) = false then 10 else if 1048575 < v then 30 else 0 := by unfold apE; rw [if_neg h7, hc]; simp
      have eW : apW x k v = if apE x k v = 0 then putW x k v else 0 := by unfold apW; rw [hc]; simp
      rw [eW]
      obtain ⟨_, hd, _⟩ := part_bd hx
      cases hh : hasB x with
      | false =>
        rw [hh] at CD
        have ho : opB x k = false := by unfold opB; rw [hh]; rfl
        have e : apE x k v = 10 := by rw [eE, ho]; rfl
        rw [e]
        exact apply_code x k v _ _ _ _ _ _ _ _ (putW x k v) 10 hk7 CW CD (blank_any k 0 hk (by omega)) CR (fun h => by omega) hv (Or.inl ⟨by decide, rfl⟩)
      | true =>
        rw [hh] at CD
        have hs := same_word (k := k) hx hh
        refine apply_code x k v _ _ _ _ _ _ _ _ (putW x k v) (apE x k v) hk7 CW CD (blank_any k (pD x) hk (by omega)) CR (fun h => ?_) hv (Or.inr ?_)
        · have ho : opB x k = true ∧ pM x = 0 ∧ v ≤ 1048575 := by
            rw [eE] at h
            split at h
            · omega
            · rename_i h1
              split at h
              · omega
              · rename_i h2
                simp at h1
                exact ⟨h1.1, h1.2, by omega⟩
          obtain ⟨g1, g2, g3, g4⟩ := hs.2 ho.1
          rw [g1, g3, g4]
          exact encode_yes _ _ _ _ _ (put_ok hx ho.1 ⟨hv.1, ho.2.2⟩)
        · by_cases ho : opB x k = true ∧ pM x = 0
          · have hn : (opB x k && decide (pM x = 0)) = true := by rw [ho.1, ho.2]; rfl
            rw [eE, hn]
            obtain ⟨g1, g2, g3, g4⟩ := hs.2 ho.1
            by_cases hv2 : 1048575 < v
            · exact Or.inr (Or.inl ⟨rfl, ⟨g1, g2, g3, g4, ho.2⟩, hv2, by simp [hv2]⟩)
            · exact Or.inr (Or.inr ⟨rfl, ⟨g1, g2, g3, g4, ho.2⟩, by omega, by simp; omega⟩)
          · have hn : (opB x k && decide (pM x = 0)) = false := by
              rw [Bool.eq_false_iff]
              intro h
              rw [Bool.and_eq_true, decide_eq_true_eq] at h
              exact ho h
            refine Or.inl ⟨rfl, fun h => ho ⟨hs.1 ⟨h.1, h.2.1, h.2.2.1, h.2.2.2.1⟩, h.2.2.2.2⟩, ?_⟩
            rw [eE, hn]
            rfl
end Go.Proofs.Ytajidaicojekdaa.RF
