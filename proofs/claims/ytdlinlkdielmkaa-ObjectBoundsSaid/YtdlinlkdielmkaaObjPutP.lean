/-
  A module laid, as the program lays it. Nothing here is a statement of the seed.
-/
import Derived.Test.YtdlinlkdielmkaaObjLayP
import Derived.Test.YtdlinlkdielmkaaObjCkP
import Derived.Test.YtdlinlkdielmkaaPosts
set_option linter.unusedSimpArgs false
set_option linter.unusedVariables false
namespace Go.Proofs.Ytdlinlkdielmkaa.OR
open Go.RowKit WM NR OM
set_option maxHeartbeats 4000000
set_option maxRecDepth 10000
/-- each row of cells is there, as it was; its marks may have turned -/
def Le (u u' : World) : Prop := ∀ (g : Nat) (C : Array Value) (e : TypeId) (m : Nat × Nat), u.heap[g]? = some (.cells C e m) → ∃ m', u'.heap[g]? = some (.cells C e m')
theorem Le.below {u u' : World} (h : Below u.heap.size u u') : Le u u' := fun g C e m hg => ⟨m, by rw [h.block g (Array.getElem?_eq_some_iff.1 hg).1]; exact hg⟩
theorem Le.refl (u : World) : Le u u := fun g C e m hg => ⟨m, hg⟩
theorem Le.cell {u u' : World} (h : Le u u') {a : Addr} {x : Value} (hc : u.cell? a = some x) : u'.cell? a = some x := by
  unfold World.cell? at hc ⊢
  split at hc
  · rename_i C e m hg
    obtain ⟨m', h'⟩ := h _ _ _ _ hg
    rw [h']
    exact hc
  · cases hc
theorem reads_le {G : Nat → Prop} {u u' : World} {v : Value} {xs : List Value} (h : Reads G u v xs) (hl : Le u u') : Reads G u' v xs := by
  obtain ⟨a, cap, e, h1, h2, h3, h4⟩ := h
  refine ⟨a, cap, e, h1, h2, h3, ?_⟩
  rcases h4 with h4 | ⟨g, off, ea, hg, hc⟩
  · exact Or.inl h4
  · refine Or.inr ⟨g, off, ea, hg, fun j hj => ?_⟩
    have hc0 := hc j hj
    rw [List.getElem?_eq_getElem hj] at hc0 ⊢
    exact hl.cell hc0
theorem convert_mark (u : World) (t e : TypeId) (g n c : Nat) (C : Array Value) (m : Nat × Nat) (ht : Try.prog.underlying t = some (.slice e)) (he : Try.prog.underlying e = some (.int .u8)) (hg : u.heap[g]? = some (.cells C e m)) :
    (convert t t (.slice (some ⟨g, 0, none⟩) n c)).run Try.prog u = .ok (.slice (some ⟨g, 0, none⟩) n c) (u.freeze ⟨g, C.size, none⟩ 1) := by
  have hsh : u.shape? g = some (e, C.size) := by
    unfold World.shape?
    rw [hg]
  simp [convert, run_underlying ht, run_underlying he, markStringish, hsh]
theorem le_freeze (u : World) (a : Addr) (n : Nat) : Le u (u.freeze a n) := fun g C e m hg => by
  unfold World.freeze
  split
  · exact ⟨m, hg⟩
  · simp only [Array.getElem?_modify]
    split
    · rw [hg]
      exact ⟨_, rfl⟩
    · exact ⟨m, hg⟩
theorem below_freeze {B : Nat} {w u : World} (h : Below B w u) {a : Addr} (ha : B ≤ a.block) (n : Nat) : Below B w (u.freeze a n) := by
  unfold World.freeze
  split
  · exact h
  · refine ⟨h.os, h.tape, h.output, by simpa using h.size, fun k hk => ?_⟩
    simp only [Array.getElem?_modify]
    rw [if_neg (by omega)]
    exact h.block k hk
theorem reads_bytes {w u : World} {B : Nat} {xs : List UInt8} {v : Value} (h : u.ownsRow w.heap.size 5 1 v xs.length (u8s xs)) (hB : B ≤ w.heap.size) : Reads (fun g => B ≤ g) u v (u8s xs) := (Reads.of_owns h).mono fun g hg => Nat.le_trans hB hg.1
/-- what the program's Put tells -/
def IsPutP (B : Nat) (m : Md) (w : World) (e : Ending) (w' : World) : Prop :=
  if chkM m = 0 then ∃ v, e = .returned (.tuple #[v, .int .i64 0]) ∧ Reads (fun g => B ≤ g) w' v (u8s (putL m)) ∧ Below w.heap.size w w'
  else e = .returned (.tuple #[.slice none 0 0, .int .i64 (chkM m : Nat)]) ∧ Below w.heap.size w w'
abbrev budC : Array Value := #[.int .u8 66, .int .u8 85, .int .u8 68, .int .u8 49]
/-- what each operation of Put's region leaves -/
def RP (B : Nat) (m : Md) : Nat → Value → World → Prop
  | 0 => fun v u => ∃ g mk, v = .slice (some ⟨g, 0, none⟩) 4 4 ∧ B ≤ g ∧ u.heap[g]? = some (.cells budC 5 mk)
  | 1 => fun v u => Reads (fun g => B ≤ g) u v (u8s bud1)
  | 4 => fun v u => Reads (fun g => B ≤ g) u v (u8s (textL m.name))
  | 7 => fun v u => Reads (fun g => B ≤ g) u v (u8s (textsL m.exps))
  | 10 => fun v u => Reads (fun g => B ≤ g) u v (u8s (textsL m.imps))
  | 13 => fun v u => Reads (fun g => B ≤ g) u v (u8s (wordsL m.code))
  | 16 => fun v u => Reads (fun g => B ≤ g) u v (u8s (wordsL m.data))
  | 19 => fun v u => Reads (fun g => B ≤ g) u v (u8s (relsL m.rels))
  | 20 => fun v u => ∃ L : List (Value × List UInt8), catP L = putL m ∧ Reads (fun g => B ≤ g) u v (L.map (·.1)) ∧ ∀ p ∈ L, Reads (fun g => B ≤ g) u p.1 (u8s p.2)
  | 21 => fun v u => Reads (fun g => B ≤ g) u v (u8s (putL m))
  | 22 => fun v u => Reads (fun g => B ≤ g) u v (u8s (putL m))
  | _ => fun v u => v = .int .i64 0
theorem RP.le {B : Nat} {m : Md} {i : Nat} {v : Value} {u u' : World} (h : RP B m i v u) (hl : Le u u') : RP B m i v u' := by
  unfold RP at h ⊢
  split at h
  · obtain ⟨g, mk, h1, h2, h3⟩ := h
    obtain ⟨mk', h4⟩ := hl _ _ _ _ h3
    exact ⟨g, mk', h1, h2, h4⟩
  all_goals first | exact reads_le h hl | exact h | skip
  obtain ⟨L, h1, h2, h3⟩ := h
  exact ⟨L, h1, reads_le h2 hl, fun p hp => reads_le (h3 p hp) hl⟩
section
variable {w : World} {ea : Option Addr} {en ec : Nat} {ia : Option Addr} {im ic : Nat} {ca : Option Addr} {cn cc : Nat} {da : Option Addr} {dn dc : Nat} {ra : Option Addr} {rn rc : Nat} {m : Md}
theorem objPut_yes (h : RdM (· < w.heap.size) w ea en ec ia im ic ca cn cc da dn dc ra rn rc m) (hc : chkM m = 0) (hf : FineM m) :
    Calls Try.prog 12 #[mV (bs m.name) ea en ec ia im ic ca cn cc da dn dc ra rn rc] w (IsPutP w.heap.size m w) := by
  obtain ⟨⟨k1, k2, k3, k4, k5⟩, k6, k7, k8, k9⟩ := chk_ok hc
  obtain ⟨l1, l2, l3, l4, l5⟩ := h.lens
  have hb0 := below_new w (.cells (mCs (bs m.name) ea en ec ia im ic ca cn cc da dn dc ra rn rc) 26)
  have X1 := Lib.hid (Whole.new w 26 (mCs (bs m.name) ea en ec ia im ic ca cn cc da dn dc ra rn rc))
  have C := Lib.hid (objCheck_any (h.go hb0 hb0.size))
  rw [hc] at C
  have HB0 := Lib.hid hb0
  have X0 := Lib.hid (Whole.new w 26 (mCs (bs m.name) ea en ec ia im ic ca cn cc da dn dc ra rn rc))
  have CT := Lib.hid (fun (u : World) => text_any (bs m.name) u (by rw [bs_size]; omega))
  rw [bs_list] at CT
  have CE := Lib.hid (fun (u : World) (hb : Below w.heap.size w u) => putTexts_any ((h.ex.below hb).mono fun g hg => Nat.lt_of_lt_of_le hg hb.size) (by omega) k7)
  have CI := Lib.hid (fun (u : World) (hb : Below w.heap.size w u) => putTexts_any ((h.im.below hb).mono fun g hg => Nat.lt_of_lt_of_le hg hb.size) (by omega) k8)
  have CC := Lib.hid (fun (u : World) (hb : Below w.heap.size w u) => words_any m.code _ u ((h.cd.below hb).mono fun g hg => Nat.lt_of_lt_of_le hg hb.size) (by omega) hf.code)
  have CD := Lib.hid (fun (u : World) (hb : Below w.heap.size w u) => words_any m.data _ u ((h.dt.below hb).mono fun g hg => Nat.lt_of_lt_of_le hg hb.size) (by omega) hf.data)
  have CR := Lib.hid (fun (u : World) (hb : Below w.heap.size w u) => putRels_any ((h.rl.below hb).mono fun g hg => Nat.lt_of_lt_of_le hg hb.size) (by omega) hf.rels)
  have hlen : Hid ((putL m).length ≤ 1000000 ∧ 0 < (putL m).length) := by
    have h1 := put_len (m := m)
    have te := textsL_len k7 (by omega)
    have ti := textsL_len k8 (by omega)
    have tc := wordsL_len k3
    have td := wordsL_len (l := m.data) (by omega)
    have tn := textL_len k6
    have tr := relsB_len m.rels hf.rels
    have tv := varL_five (m.rels.length % 4294967296) (by omega)
    refine ⟨?_, by omega⟩
    unfold putL bodyL bud1 relsL
    simp only [List.length_append, List.length_cons, List.length_nil]
    omega
  have e : IsPutP w.heap.size m w = fun e w' => ∃ v, e = .returned (.tuple #[v, .int .i64 0]) ∧ Reads (fun g => w.heap.size ≤ g) w' v (u8s (putL m)) ∧ Below w.heap.size w w' := by
    funext e w'
    unfold IsPutP
    rw [if_pos hc]
  rw [e]
  clear e hc hf h hb0 k1 k2 k3 k4 k5 k6 k7 k8 k9 l1 l2 l3 l4 l5
  generalize bs m.name = x at *
  go_enter Try.func12, Try.ntmps12
  go_upto_region 4 with (go_at_call 14; (with_reducible refine C.out.mono ?_); rintro e w1 ⟨rfl, hb⟩; have Z := Lib.hid (HB0.out.trans (hb.mono HB0.out.size)); have X2 := Lib.hid (X1.out.belowS hb); have Y1 := Lib.hid hb; clear hb)
  have hW0s : w.heap.size ≤ (w.alloc (.cells (mCs x ea en ec ia im ic ca cn cc da dn dc ra rn rc) 26)).heap.size := HB0.out.size
  have HBW := Lib.hid (fun (u : World) (h : Below (w.alloc (.cells (mCs x ea en ec ia im ic ca cn cc da dn dc ra rn rc) 26)).heap.size (w.alloc (.cells (mCs x ea en ec ia im ic ca cn cc da dn dc ra rn rc) 26)) u) => HB0.out.trans (h.mono HB0.out.size))
  generalize w.alloc (.cells (mCs x ea en ec ia im ic ca cn cc da dn dc ra rn rc) 26) = W0 at *
  clear HB0 X1 X2 C
  have Y2 := Lib.hid Y1.out.drew
  have SX : MC w.heap.size x ea en ec ia im ic ca cn cc da dn dc ra rn rc w1.drew := mc_of X0.out Y2.out
  refine wp_region_held_drew (S := fun u => MC w.heap.size x ea en ec ia im ic ca cn cc da dn dc ra rn rc u) (by kernel_rfl) SX (fun hHeld => ?_)
  refine wpAnyH_take (i := 2) (v := ?tkv1) rfl (by kernel_rfl) (by kernel_rfl) (by kernel_rfl) (fun _ _ _ h => h) (Or.inl ⟨by rfl, ?tky1⟩) (by assumption) ?tkr1
  case tky1 =>
    intro u hSu
    obtain ⟨s0, s1, s2, s3, s4, s5⟩ := hSu
    go_simp
    try with_reducible rfl
  try simp only [Act.put, List.getElem_toArray, List.getElem_cons_succ, List.getElem_cons_zero, List.setIfInBounds_toArray, List.set_cons_zero, List.set_cons_succ]
  refine wpAnyH_take (i := 3) (v := ?tkv2) rfl (by kernel_rfl) (by kernel_rfl) (by kernel_rfl) (fun _ _ _ h => h) (Or.inl ⟨by rfl, ?tky2⟩) (by assumption) ?tkr2
  case tky2 =>
    intro u hSu
    obtain ⟨s0, s1, s2, s3, s4, s5⟩ := hSu
    go_simp
    try with_reducible rfl
  try simp only [Act.put, List.getElem_toArray, List.getElem_cons_succ, List.getElem_cons_zero, List.setIfInBounds_toArray, List.set_cons_zero, List.set_cons_succ]
  refine wpAnyH_take (i := 5) (v := ?tkv3) rfl (by kernel_rfl) (by kernel_rfl) (by kernel_rfl) (fun _ _ _ h => h) (Or.inl ⟨by rfl, ?tky3⟩) (by assumption) ?tkr3
  case tky3 =>
    intro u hSu
    obtain ⟨s0, s1, s2, s3, s4, s5⟩ := hSu
    go_simp
    try with_reducible rfl
  try simp only [Act.put, List.getElem_toArray, List.getElem_cons_succ, List.getElem_cons_zero, List.setIfInBounds_toArray, List.set_cons_zero, List.set_cons_succ]
  refine wpAnyH_take (i := 6) (v := ?tkv4) rfl (by kernel_rfl) (by kernel_rfl) (by kernel_rfl) (fun _ _ _ h => h) (Or.inl ⟨by rfl, ?tky4⟩) (by assumption) ?tkr4
  case tky4 =>
    intro u hSu
    obtain ⟨s0, s1, s2, s3, s4, s5⟩ := hSu
    go_simp
    try with_reducible rfl
  try simp only [Act.put, List.getElem_toArray, List.getElem_cons_succ, List.getElem_cons_zero, List.setIfInBounds_toArray, List.set_cons_zero, List.set_cons_succ]
  refine wpAnyH_take (i := 8) (v := ?tkv5) rfl (by kernel_rfl) (by kernel_rfl) (by kernel_rfl) (fun _ _ _ h => h) (Or.inl ⟨by rfl, ?tky5⟩) (by assumption) ?tkr5
  case tky5 =>
    intro u hSu
    obtain ⟨s0, s1, s2, s3, s4, s5⟩ := hSu
    go_simp
    try with_reducible rfl
  try simp only [Act.put, List.getElem_toArray, List.getElem_cons_succ, List.getElem_cons_zero, List.setIfInBounds_toArray, List.set_cons_zero, List.set_cons_succ]
  refine wpAnyH_take (i := 9) (v := ?tkv6) rfl (by kernel_rfl) (by kernel_rfl) (by kernel_rfl) (fun _ _ _ h => h) (Or.inl ⟨by rfl, ?tky6⟩) (by assumption) ?tkr6
  case tky6 =>
    intro u hSu
    obtain ⟨s0, s1, s2, s3, s4, s5⟩ := hSu
    go_simp
    try with_reducible rfl
  try simp only [Act.put, List.getElem_toArray, List.getElem_cons_succ, List.getElem_cons_zero, List.setIfInBounds_toArray, List.set_cons_zero, List.set_cons_succ]
  refine wpAnyH_take (i := 11) (v := ?tkv7) rfl (by kernel_rfl) (by kernel_rfl) (by kernel_rfl) (fun _ _ _ h => h) (Or.inl ⟨by rfl, ?tky7⟩) (by assumption) ?tkr7
  case tky7 =>
    intro u hSu
    obtain ⟨s0, s1, s2, s3, s4, s5⟩ := hSu
    go_simp
    try with_reducible rfl
  try simp only [Act.put, List.getElem_toArray, List.getElem_cons_succ, List.getElem_cons_zero, List.setIfInBounds_toArray, List.set_cons_zero, List.set_cons_succ]
  refine wpAnyH_take (i := 12) (v := ?tkv8) rfl (by kernel_rfl) (by kernel_rfl) (by kernel_rfl) (fun _ _ _ h => h) (Or.inl ⟨by rfl, ?tky8⟩) (by assumption) ?tkr8
  case tky8 =>
    intro u hSu
    obtain ⟨s0, s1, s2, s3, s4, s5⟩ := hSu
    go_simp
    try with_reducible rfl
  try simp only [Act.put, List.getElem_toArray, List.getElem_cons_succ, List.getElem_cons_zero, List.setIfInBounds_toArray, List.set_cons_zero, List.set_cons_succ]
  refine wpAnyH_take (i := 14) (v := ?tkv9) rfl (by kernel_rfl) (by kernel_rfl) (by kernel_rfl) (fun _ _ _ h => h) (Or.inl ⟨by rfl, ?tky9⟩) (by assumption) ?tkr9
  case tky9 =>
    intro u hSu
    obtain ⟨s0, s1, s2, s3, s4, s5⟩ := hSu
    go_simp
    try with_reducible rfl
  try simp only [Act.put, List.getElem_toArray, List.getElem_cons_succ, List.getElem_cons_zero, List.setIfInBounds_toArray, List.set_cons_zero, List.set_cons_succ]
  refine wpAnyH_take (i := 15) (v := ?tkv10) rfl (by kernel_rfl) (by kernel_rfl) (by kernel_rfl) (fun _ _ _ h => h) (Or.inl ⟨by rfl, ?tky10⟩) (by assumption) ?tkr10
  case tky10 =>
    intro u hSu
    obtain ⟨s0, s1, s2, s3, s4, s5⟩ := hSu
    go_simp
    try with_reducible rfl
  try simp only [Act.put, List.getElem_toArray, List.getElem_cons_succ, List.getElem_cons_zero, List.setIfInBounds_toArray, List.set_cons_zero, List.set_cons_succ]
  refine wpAnyH_take (i := 17) (v := ?tkv11) rfl (by kernel_rfl) (by kernel_rfl) (by kernel_rfl) (fun _ _ _ h => h) (Or.inl ⟨by rfl, ?tky11⟩) (by assumption) ?tkr11
  case tky11 =>
    intro u hSu
    obtain ⟨s0, s1, s2, s3, s4, s5⟩ := hSu
    go_simp
    try with_reducible rfl
  try simp only [Act.put, List.getElem_toArray, List.getElem_cons_succ, List.getElem_cons_zero, List.setIfInBounds_toArray, List.set_cons_zero, List.set_cons_succ]
  refine wpAnyH_take (i := 18) (v := ?tkv12) rfl (by kernel_rfl) (by kernel_rfl) (by kernel_rfl) (fun _ _ _ h => h) (Or.inl ⟨by rfl, ?tky12⟩) (by assumption) ?tkr12
  case tky12 =>
    intro u hSu
    obtain ⟨s0, s1, s2, s3, s4, s5⟩ := hSu
    go_simp
    try with_reducible rfl
  try simp only [Act.put, List.getElem_toArray, List.getElem_cons_succ, List.getElem_cons_zero, List.setIfInBounds_toArray, List.set_cons_zero, List.set_cons_succ]
  refine PO.wpAnyH_steps (RP W0.heap.size m) (fun u => Below W0.heap.size W0 u) [0, 1, 4, 7, 10, 13, 16, 19, 20, 21, 22, 23] (by kernel_rfl) (by kernel_rfl) (by kernel_rfl) Y2.out (fun u hu => mc_of X0.out hu) ?step ?done
  case step =>
    have hsz0 : ∀ u, Below W0.heap.size W0 u → W0.heap.size ≤ u.heap.size := fun u h => h.size
    refine PO.Steps.cons rfl (fun a u hJ hout hR K hK => ?s0) ?_
    case s0 =>
      clear hout hR
      go_simp
      exact hK.out _ _ (hJ.alloc hJ.size _) (fun _ _ _ h => h.le (Le.below (below_new u _))) ⟨u.heap.size, (0, 0), rfl, hJ.size, heap_alloc_new u _⟩
    refine PO.Steps.cons rfl (fun a u hJ hout hR K hK => ?s1) ?_
    case s1 =>
      obtain ⟨g, mk, r0, hg, hcell⟩ := (show ∃ g mk, a.eval (.tmp 10) = .slice (some ⟨g, 0, none⟩) 4 4 ∧ W0.heap.size ≤ g ∧ u.heap[g]? = some (.cells budC 5 mk) from hR 0 (by kernel_rfl))
      have hcv := convert_mark u 30 5 g 4 4 budC mk Try.underlying30 Try.underlying5 hcell
      have r0' : a.tmps.getD 10 undef = .slice (some ⟨g, 0, none⟩) 4 4 := r0
      clear hout hR
      go_simp
      refine hK.out _ _ (below_freeze hJ hg 1) (fun _ _ _ h => h.le (le_freeze u _ 1)) (show Reads (fun g => W0.heap.size ≤ g) (u.freeze ⟨g, 4, none⟩ 1) (.slice (some ⟨g, 0, none⟩) 4 4) (u8s bud1) from reads_le ⟨some ⟨g, 0, none⟩, 4, rfl, by decide, by simp [maxLen], (fun h => by cases h), Or.inr ⟨g, 0, rfl, hg, fun j hj => ?_⟩⟩ (le_freeze u _ 1))
      unfold World.cell?
      simp only [hcell]
      rw [Nat.zero_add]
      have hj4 : j < 4 := hj
      rcases (show j = 0 ∨ j = 1 ∨ j = 2 ∨ j = 3 by omega) with rfl | rfl | rfl | rfl <;> rfl
    refine PO.Steps.cons rfl (fun a u hJ hout hR K hK => ?s4) ?_
    case s4 =>
      have o0 : a.tmps.getD 13 undef = .string x := hout 13 (by kernel_rfl)
      clear hout hR
      (go_simp; go_at_call 22; (with_reducible refine (CT.out _).mono ?_); rintro e u1 ⟨v1, rfl, own, hb⟩)
      exact hK.out _ _ (hJ.trans (hb.mono hJ.size)) (fun _ _ _ h => h.le (Le.below hb)) (reads_bytes own hJ.size)
    refine PO.Steps.cons rfl (fun a u hJ hout hR K hK => ?s7) ?_
    case s7 =>
      have o0 : a.tmps.getD 16 undef = .slice ea en ec := hout 16 (by kernel_rfl)
      clear hout hR
      (go_simp; go_at_call 23; (with_reducible refine (CE.out _ (HBW.out _ hJ)).mono ?_); rintro e u1 ⟨v1, rfl, own, hb⟩)
      exact hK.out _ _ (hJ.trans (hb.mono hJ.size)) (fun _ _ _ h => h.le (Le.below hb)) (reads_bytes own hJ.size)
    refine PO.Steps.cons rfl (fun a u hJ hout hR K hK => ?s10) ?_
    case s10 =>
      have o0 : a.tmps.getD 19 undef = .slice ia im ic := hout 19 (by kernel_rfl)
      clear hout hR
      (go_simp; go_at_call 23; (with_reducible refine (CI.out _ (HBW.out _ hJ)).mono ?_); rintro e u1 ⟨v1, rfl, own, hb⟩)
      exact hK.out _ _ (hJ.trans (hb.mono hJ.size)) (fun _ _ _ h => h.le (Le.below hb)) (reads_bytes own hJ.size)
    refine PO.Steps.cons rfl (fun a u hJ hout hR K hK => ?s13) ?_
    case s13 =>
      have o0 : a.tmps.getD 22 undef = .slice ca cn cc := hout 22 (by kernel_rfl)
      clear hout hR
      (go_simp; go_at_call 24; (with_reducible refine (CC.out _ (HBW.out _ hJ)).mono ?_); rintro e u1 ⟨v1, rfl, own, hb⟩)
      exact hK.out _ _ (hJ.trans (hb.mono hJ.size)) (fun _ _ _ h => h.le (Le.below hb)) (reads_bytes own hJ.size)
    refine PO.Steps.cons rfl (fun a u hJ hout hR K hK => ?s16) ?_
    case s16 =>
      have o0 : a.tmps.getD 25 undef = .slice da dn dc := hout 25 (by kernel_rfl)
      clear hout hR
      (go_simp; go_at_call 24; (with_reducible refine (CD.out _ (HBW.out _ hJ)).mono ?_); rintro e u1 ⟨v1, rfl, own, hb⟩)
      exact hK.out _ _ (hJ.trans (hb.mono hJ.size)) (fun _ _ _ h => h.le (Le.below hb)) (reads_bytes own hJ.size)
    refine PO.Steps.cons rfl (fun a u hJ hout hR K hK => ?s19) ?_
    case s19 =>
      have o0 : a.tmps.getD 28 undef = .slice ra rn rc := hout 28 (by kernel_rfl)
      clear hout hR
      (go_simp; go_at_call 25; (with_reducible refine (CR.out _ (HBW.out _ hJ)).mono ?_); rintro e u1 ⟨v1, rfl, own, hb⟩)
      exact hK.out _ _ (hJ.trans (hb.mono hJ.size)) (fun _ _ _ h => h.le (Le.below hb)) (reads_bytes own hJ.size)
    refine PO.Steps.cons rfl (fun a u hJ hout hR K hK => ?s20) ?_
    case s20 =>
      have r1 : Reads (fun g => W0.heap.size ≤ g) u (a.tmps.getD 11 undef) (u8s (bud1)) := hR 1 (by kernel_rfl)
      obtain ⟨a1, n1, c1, e1⟩ := r1.form
      rw [e1] at r1
      have r4 : Reads (fun g => W0.heap.size ≤ g) u (a.tmps.getD 14 undef) (u8s (textL m.name)) := hR 4 (by kernel_rfl)
      obtain ⟨a4, n4, c4, e4⟩ := r4.form
      rw [e4] at r4
      have r7 : Reads (fun g => W0.heap.size ≤ g) u (a.tmps.getD 17 undef) (u8s (textsL m.exps)) := hR 7 (by kernel_rfl)
      obtain ⟨a7, n7, c7, e7⟩ := r7.form
      rw [e7] at r7
      have r10 : Reads (fun g => W0.heap.size ≤ g) u (a.tmps.getD 20 undef) (u8s (textsL m.imps)) := hR 10 (by kernel_rfl)
      obtain ⟨a10, n10, c10, e10⟩ := r10.form
      rw [e10] at r10
      have r13 : Reads (fun g => W0.heap.size ≤ g) u (a.tmps.getD 23 undef) (u8s (wordsL m.code)) := hR 13 (by kernel_rfl)
      obtain ⟨a13, n13, c13, e13⟩ := r13.form
      rw [e13] at r13
      have r16 : Reads (fun g => W0.heap.size ≤ g) u (a.tmps.getD 26 undef) (u8s (wordsL m.data)) := hR 16 (by kernel_rfl)
      obtain ⟨a16, n16, c16, e16⟩ := r16.form
      rw [e16] at r16
      have r19 : Reads (fun g => W0.heap.size ≤ g) u (a.tmps.getD 29 undef) (u8s (relsL m.rels)) := hR 19 (by kernel_rfl)
      obtain ⟨a19, n19, c19, e19⟩ := r19.form
      rw [e19] at r19
      simp only [Array.getD_eq_getD_getElem?] at e1 e4 e7 e10 e13 e16 e19
      clear hout hR
      go_simp
      have hle := Le.below (below_new u (.cells #[.slice a1 n1 c1, .slice a4 n4 c4, .slice a7 n7 c7, .slice a10 n10 c10, .slice a13 n13 c13, .slice a16 n16 c16, .slice a19 n19 c19] 30))
      have hR20 : RP W0.heap.size m 20 (.slice (some ⟨u.heap.size, 0, none⟩) 7 7) (u.alloc (.cells #[.slice a1 n1 c1, .slice a4 n4 c4, .slice a7 n7 c7, .slice a10 n10 c10, .slice a13 n13 c13, .slice a16 n16 c16, .slice a19 n19 c19] 30)) := by
        refine ⟨[(.slice a1 n1 c1, bud1), (.slice a4 n4 c4, textL m.name), (.slice a7 n7 c7, textsL m.exps), (.slice a10 n10 c10, textsL m.imps), (.slice a13 n13 c13, wordsL m.code), (.slice a16 n16 c16, wordsL m.data), (.slice a19 n19 c19, relsL m.rels)], ?_, ?_, ?_⟩
        · simp [catP, putL, bodyL]
        · exact (Reads.of_owns (World.ownsRow_lit (e := 30) (base := W0.heap.size) (size := 1) u #[.slice a1 n1 c1, .slice a4 n4 c4, .slice a7 n7 c7, .slice a10 n10 c10, .slice a13 n13 c13, .slice a16 n16 c16, .slice a19 n19 c19] 7 hJ.size (by simp [maxLen]) rfl)).mono fun g hg => hg.1
        · intro p hp
          simp only [List.mem_cons, List.not_mem_nil, or_false] at hp
          rcases hp with rfl | rfl | rfl | rfl | rfl | rfl | rfl
          · exact reads_le r1 hle
          · exact reads_le r4 hle
          · exact reads_le r7 hle
          · exact reads_le r10 hle
          · exact reads_le r13 hle
          · exact reads_le r16 hle
          · exact reads_le r19 hle
      exact hK.out _ _ (hJ.alloc hJ.size _) (fun _ _ _ h => h.le hle) hR20
    refine PO.Steps.cons rfl (fun a u hJ hout hR K hK => ?s21) ?_
    case s21 =>
      obtain ⟨L, hcat, r20, rL⟩ := (show ∃ L : List (Value × List UInt8), catP L = putL m ∧ Reads (fun g => W0.heap.size ≤ g) u (a.tmps.getD 30 undef) (L.map (·.1)) ∧ ∀ p ∈ L, Reads (fun g => W0.heap.size ≤ g) u p.1 (u8s p.2) from hR 20 (by kernel_rfl))
      obtain ⟨a1, n1, c1, e1⟩ := r20.form
      rw [e1] at r20
      have CO := Lib.hid (concat_any (r20.there.mono fun g hg => hg.2) (fun p hp => (rL p hp).there.mono fun g hg => hg.2) (by rw [hcat]; exact hlen.out.1) (by rw [hcat]; exact hlen.out.2))
      rw [hcat] at CO
      clear hout hR r20 rL hcat
      (go_simp; go_at_call 21; (with_reducible refine CO.out.mono ?_); rintro e u1 ⟨v1, rfl, own, hb⟩)
      exact hK.out _ _ (hJ.trans (hb.mono hJ.size)) (fun _ _ _ h => h.le (Le.below hb)) (reads_bytes own hJ.size)
    refine PO.Steps.cons rfl (fun a u hJ hout hR K hK => ?s22) ?_
    case s22 =>
      have r21 : Reads (fun g => W0.heap.size ≤ g) u (a.tmps.getD 31 undef) (u8s (putL m)) := hR 21 (by kernel_rfl)
      obtain ⟨a1, n1, c1, e1⟩ := r21.form
      rw [e1] at r21
      clear hout hR
      go_simp
      exact hK.out _ _ hJ (fun _ _ _ h => h) r21
    refine PO.Steps.cons rfl (fun a u hJ hout hR K hK => ?s23) PO.Steps.nil
    case s23 =>
      clear hout hR
      go_simp
      exact hK.out _ _ hJ (fun _ _ _ h => h) rfl
  case done =>
    intro a u hJ hout hsz hdf hR
    have r22 : Reads (fun g => W0.heap.size ≤ g) u (a.tmps.getD 2 undef) (u8s (putL m)) := hR 22 rfl
    have r23 : a.tmps.getD 3 undef = .int .i64 0 := hR 23 rfl
    obtain ⟨v, hv⟩ : ∃ v, a.tmps.getD 2 undef = v := ⟨_, rfl⟩
    rw [hv] at r22
    have r22h := Lib.hid r22
    clear hout hR r22 hHeld SX
    go_wp2_with fail
    refine bodyPost_ret (v := .tuple #[v, .int .i64 0]) (by simp only [Array.getD_eq_getD_getElem?] at hv r23; simp [results, Try.results12, go_sem, hv, r23]) hdf ⟨v, rfl, r22h.out.mono fun g hg => Nat.le_trans hW0s hg, HBW.out _ hJ⟩
theorem objPut_no (h : RdM (· < w.heap.size) w ea en ec ia im ic ca cn cc da dn dc ra rn rc m) (hc : chkM m ≠ 0) :
    Calls Try.prog 12 #[mV (bs m.name) ea en ec ia im ic ca cn cc da dn dc ra rn rc] w (IsPutP w.heap.size m w) := by
  have hb0 := below_new w (.cells (mCs (bs m.name) ea en ec ia im ic ca cn cc da dn dc ra rn rc) 26)
  have C := Lib.hid (objCheck_any (h.go hb0 hb0.size))
  have HB0 := Lib.hid hb0
  have e : IsPutP w.heap.size m w = fun e w' => e = .returned (.tuple #[.slice none 0 0, .int .i64 (chkM m : Nat)]) ∧ Below w.heap.size w w' := by
    funext e w'
    unfold IsPutP
    rw [if_neg hc]
  rw [e]
  have hq : ((chkM m : Int) != 0) = true := by simpa using hc
  clear e hc hb0 h
  generalize ((chkM m : Nat) : Int) = K at *
  generalize bs m.name = x at *
  go_enter Try.func12, Try.ntmps12
  go_wp2_with (go_at_call 14; (with_reducible refine C.out.mono ?_); rintro e w1 ⟨rfl, hb⟩; have Z := Lib.hid (HB0.out.trans (hb.mono HB0.out.size)); clear hb)
  exact bodyPost_ret (v := .tuple #[.slice none 0 0, .int .i64 K]) (by simp [results, Try.results12, go_sem]) rfl ⟨rfl, Z.out⟩
theorem objPut_any (h : RdM (· < w.heap.size) w ea en ec ia im ic ca cn cc da dn dc ra rn rc m) (hf : FineM m) :
    Calls Try.prog 12 #[mV (bs m.name) ea en ec ia im ic ca cn cc da dn dc ra rn rc] w (IsPutP w.heap.size m w) := by
  by_cases hc : chkM m = 0
  · exact objPut_yes h hc hf
  · exact objPut_no h hc
end
end Go.Proofs.Ytdlinlkdielmkaa.OR
