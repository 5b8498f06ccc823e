/-
  One call of a reader, held against the reference's.
-/
import Derived.Test.YtjmmkebnebhfoaaWireSt
import Derived.Deep.RegionWith
set_option linter.unusedSimpArgs false
set_option linter.unusedVariables false
namespace Go.Proofs.Ytjmmkebnebhfoaa.NR
open Go.RowKit WM

theorem gcell {u w2 : World} {p : Nat} (h : u.grownBy w2 (some p)) : (∀ b o, b < u.heap.size → ¬ b = p → w2.cell? ⟨b, o, none⟩ = u.cell? ⟨b, o, none⟩) ∧ (∀ b o, b < u.heap.size → ¬ b = p → w2.frozen? ⟨b, o, none⟩ = u.frozen? ⟨b, o, none⟩) :=
  ⟨fun b o h1 h2 => World.cell?_of_block (w := u) (a := ⟨b, o, none⟩) (h.block b h1 (fun e => h2 (Option.some.inj e))), fun b o h1 h2 => World.frozen?_of_block (w := u) (a := ⟨b, o, none⟩) (h.block b h1 (fun e => h2 (Option.some.inj e)))⟩
def DoPost (w : World) (p : Nat) (l : List UInt8) (en : Ending) (w' : World) : Prop :=
  ∃ v' e' l', en = .returned (.tuple #[.agg #[v', .int .i64 ((e' : Nat) : Int)], .bool true]) ∧ w.grownBy w' (some p) ∧ Rd w' p l' e' ∧ Reads (· < p) w' v' (u8s l') ∧ (e' ≠ 0 → l' = []) ∧ l'.length ≤ l.length
theorem three_blocks {w w1 : World} {o1 o2 o3 : Obj} (hb : Below (((w.alloc o1).alloc o2).alloc o3).heap.size (((w.alloc o1).alloc o2).alloc o3) w1) :
    w1.heap[w.heap.size]? = some o1 ∧ w1.heap[w.heap.size + 1]? = some o2 ∧ w1.heap[w.heap.size + 2]? = some o3 := by
  refine ⟨?_, ?_, ?_⟩
  · rw [hb.block _ (by simp; omega), Below.heap_alloc _ _ _ (by simp; omega), Below.heap_alloc _ _ _ (by simp)]
    exact heap_alloc_new w _
  · rw [hb.block _ (by simp), Below.heap_alloc _ _ _ (by simp)]
    have := heap_alloc_new (w.alloc o1) o2
    simpa using this
  · rw [hb.block _ (by simp)]
    have := heap_alloc_new ((w.alloc o1).alloc o2) o3
    simpa using this
theorem vr_len (m : Nat) (f i n : Nat) (l : List UInt8) : (vr m f i n l).2.2.length ≤ l.length := by
  by_cases h : (vr m f i n l).1 = 0
  · have := (vr_good m f i n l h).2.2; omega
  · rw [vr_none m f i n l h]; simp
theorem rdBytes_len (m size : Nat) (l : List UInt8) : (rdBytes m size l).2.2.length ≤ l.length := by
  have hv : (rdVar m l).2.2.length ≤ l.length := vr_len m 5 0 0 l
  unfold rdBytes
  split
  · split
    · simp only [List.length_drop]; omega
    · simp
  · simp
theorem stVar_dead {M e e' n : Nat} {l l' : List UInt8} (h : e ≠ 0 → l = []) (hv : stVar M e l = (e', n, l')) : e' ≠ 0 → l' = [] := by
  intro hk
  unfold stVar at hv
  split at hv
  · have hz := vr_none M 5 0 0 l (by have e1 : (vr M 5 0 0 l).1 = e' := congrArg (·.1) hv; rw [e1]; exact hk)
    have e3 : (vr M 5 0 0 l).2 = (n, l') := congrArg (·.2) hv
    rw [hz] at e3
    exact (Prod.mk.inj e3).2.symm
  · rename_i he
    obtain ⟨rfl, h2⟩ := Prod.mk.inj hv
    obtain ⟨rfl, rfl⟩ := Prod.mk.inj h2
    exact h he
theorem stVar_len {M e e' n : Nat} {l l' : List UInt8} (hv : stVar M e l = (e', n, l')) : l'.length ≤ l.length := by
  unfold stVar at hv
  split at hv
  · have := vr_len M 5 0 0 l
    have e3 : (vr M 5 0 0 l).2.2 = l' := congrArg (·.2.2) hv
    rwa [e3] at this
  · obtain ⟨rfl, h2⟩ := Prod.mk.inj hv
    obtain ⟨rfl, rfl⟩ := Prod.mk.inj h2
    exact Nat.le_refl _
theorem stText_dead {M e e' : Nat} {a l l' : List UInt8} (h : e ≠ 0 → l = []) (hv : stText M e l = (e', a, l')) : e' ≠ 0 → l' = [] := by
  intro hk
  unfold stText at hv
  split at hv
  · have hz := rdBytes_none M 1 l (by rw [hv]; exact hk)
    rw [hv] at hz
    exact (Prod.mk.inj hz).2
  · rename_i he
    obtain ⟨rfl, h2⟩ := Prod.mk.inj hv
    obtain ⟨rfl, rfl⟩ := Prod.mk.inj h2
    exact h he
theorem stText_len {M e e' : Nat} {a l l' : List UInt8} (hv : stText M e l = (e', a, l')) : l'.length ≤ l.length := by
  unfold stText at hv
  split at hv
  · have := rdBytes_len M 1 l
    rwa [hv] at this
  · obtain ⟨rfl, h2⟩ := Prod.mk.inj hv
    obtain ⟨rfl, rfl⟩ := Prod.mk.inj h2
    exact Nat.le_refl _
theorem stWord_dead {e e' n : Nat} {l l' : List UInt8} (h : e ≠ 0 → l = []) (hv : stWord e l = (e', n, l')) : e' ≠ 0 → l' = [] := by
  intro hk
  unfold stWord at hv
  split at hv
  · unfold rdWord at hv
    split at hv
    · obtain ⟨rfl, _⟩ := Prod.mk.inj hv; exact absurd rfl hk
    · obtain ⟨rfl, h2⟩ := Prod.mk.inj hv
      obtain ⟨rfl, rfl⟩ := Prod.mk.inj h2
      rfl
  · rename_i he
    obtain ⟨rfl, h2⟩ := Prod.mk.inj hv
    obtain ⟨rfl, rfl⟩ := Prod.mk.inj h2
    exact h he
theorem stWord_len {e e' n : Nat} {l l' : List UInt8} (hv : stWord e l = (e', n, l')) : l'.length ≤ l.length := by
  unfold stWord at hv
  split at hv
  · unfold rdWord at hv
    split at hv
    · obtain ⟨rfl, h2⟩ := Prod.mk.inj hv
      obtain ⟨rfl, rfl⟩ := Prod.mk.inj h2
      simp
    · obtain ⟨rfl, h2⟩ := Prod.mk.inj hv
      obtain ⟨rfl, rfl⟩ := Prod.mk.inj h2
      simp
  · obtain ⟨rfl, h2⟩ := Prod.mk.inj hv
    obtain ⟨rfl, rfl⟩ := Prod.mk.inj h2
    exact Nat.le_refl _
theorem stWords_dead {M e e' : Nat} {a : List Nat} {l l' : List UInt8} (h : e ≠ 0 → l = []) (hv : stWords M e l = (e', a, l')) : e' ≠ 0 → l' = [] := by
  intro hk
  unfold stWords at hv
  split at hv
  · obtain ⟨k, b, b', hb⟩ : ∃ k b b', rdBytes M 4 l = (k, b, b') := ⟨_, _, _, rfl⟩
    obtain ⟨n, _, h2⟩ := rdWords_bytes _ _ _ _ _ hb
    rw [hv] at h2
    obtain ⟨rfl, h3⟩ := Prod.mk.inj h2
    obtain ⟨_, rfl⟩ := Prod.mk.inj h3
    have hz := rdBytes_none M 4 l (by rw [hb]; exact hk)
    rw [hb] at hz
    exact (Prod.mk.inj hz).2
  · rename_i he
    obtain ⟨rfl, h2⟩ := Prod.mk.inj hv
    obtain ⟨rfl, rfl⟩ := Prod.mk.inj h2
    exact h he
theorem stWords_len {M e e' : Nat} {a : List Nat} {l l' : List UInt8} (hv : stWords M e l = (e', a, l')) : l'.length ≤ l.length := by
  unfold stWords at hv
  split at hv
  · obtain ⟨k, b, b', hb⟩ : ∃ k b b', rdBytes M 4 l = (k, b, b') := ⟨_, _, _, rfl⟩
    obtain ⟨n, _, h2⟩ := rdWords_bytes _ _ _ _ _ hb
    rw [hv] at h2
    obtain ⟨rfl, h3⟩ := Prod.mk.inj h2
    obtain ⟨_, rfl⟩ := Prod.mk.inj h3
    have := rdBytes_len M 4 l
    rwa [hb] at this
  · obtain ⟨rfl, h2⟩ := Prod.mk.inj hv
    obtain ⟨rfl, rfl⟩ := Prod.mk.inj h2
    exact Nat.le_refl _
theorem do_close {w w1 u w2 F : World} {p e' : Nat} {v : Value} {l l' : List UInt8} (hp : p < w.heap.size) (hu : Below w.heap.size w u) (hg : u.grownBy w2 (some p)) (hr : Rd w2 p l' e') (hF : Below w.heap.size w2 F) (hw1 : Below w.heap.size w w1)
    (hd : Reads (· < p) w1 v (u8s l')) (hdead : e' ≠ 0 → l' = []) (hlen : l'.length ≤ l.length) : DoPost w p l (.returned (.tuple #[.agg #[v, .int .i64 (e' : Int)], .bool true])) F :=
  ⟨v, e', l', rfl, grown_then (grown_from hu hg) hF, hr.far hF hp, hd.keep fun g hgp hlt => by
    have hgw : g < w.heap.size := Nat.lt_trans hgp hp
    rw [hF.block g hgw, hg.block g (Nat.lt_of_lt_of_le hgw hu.size) (fun e => by have := Option.some.inj e; omega), hu.block g hgw, hw1.block g hgw], hdead, hlen⟩
theorem do_var (w : World) (p : Nat) (v : Value) (l : List UInt8) (e : Nat) (Kd Mo : Int) (h : Rd w p l e) (hr : Reads (· < p) w v (u8s l)) (hl : l.length ≤ 140737488351232) (hel : e ≠ 0 → l = [])
    (hK : 0 ≤ Kd ∧ Kd ≤ 255) (hMo : -2147483648 ≤ Mo ∧ Mo ≤ 2147483647) (hk : Kd % 4 = 0) :
    Calls Try.prog 19 #[.pointer (some ⟨p, 0, none⟩), .agg #[v, .int .i64 (e : Int)], .agg #[.int .u8 Kd, .int .i32 Mo]] w (DoPost w p l) := by
  obtain ⟨e', n, l', hst⟩ : ∃ e' n l', stVar (Mo % 4294967296).toNat e l = (e', n, l') := ⟨_, _, _, rfl⟩
  have hp := h.lt
  have CX := Lib.hid (fun (u : World) (hu : Below w.heap.size w u) => xVar_st (· < p) u v l l' e e' n (Mo % 4294967296) (fun g hg => Nat.lt_of_lt_of_le (Nat.lt_trans hg hp) hu.size) (reads_on hr (fun g hg => Nat.lt_trans hg hp) hu) (by omega) hst)
  have CR := Lib.hid (fun (u : World) (hu : Below w.heap.size w u) => rVar_st u p l l' e e' n (Mo % 4294967296) (h.keep hu) (by omega) (by omega) hst)
  obtain ⟨av, nv, cv, rfl⟩ := hr.form
  obtain ⟨hK1, hK2⟩ := hK
  obtain ⟨hM1, hM2⟩ := hMo
  have hk1 : (Kd % 4 == 0) = true := by simp [hk]
  have HST := Lib.hid hst
  have HEL := Lib.hid hel
  clear hst hel hr h hk
  go_enter Try.func19, Try.ntmps19
  go_wp2_with fail
  refine (CX.out _ ?hcb).mono ?_
  case hcb => exact (below_new2 w _ _).alloc (by simp; omega) _
  rintro en w1 ⟨v1, rfl, d1, hb1⟩
  obtain ⟨b0, b1, b2⟩ := three_blocks hb1
  have hz1 : w.heap.size + 2 < w1.heap.size := by have := hb1.size; simp at this; omega
  have hw1 : Below w.heap.size w w1 := ((below_new2 w _ _).alloc (by simp; omega) _).trans (hb1.mono (by simp; omega))
  have HW1 := Lib.hid hw1
  have k0 : w1.cell? ⟨w.heap.size + 1, 0, none⟩ = some (.int .u8 Kd) := block_cell b1 0
  have k1 : w1.cell? ⟨w.heap.size + 1, 1, none⟩ = some (.int .i32 Mo) := block_cell b1 1
  have r0 : w1.cell? ⟨w.heap.size + 1 + 1, 0, none⟩ = some (.slice none 0 0) := block_cell b2 0
  have r1 : w1.cell? ⟨w.heap.size + 1 + 1, 1, none⟩ = some (.int .i64 0) := block_cell b2 1
  have f0 : w1.frozen? ⟨w.heap.size + 1 + 1, 0, none⟩ = false := block_free b2 0
  have f1 : w1.frozen? ⟨w.heap.size + 1 + 1, 1, none⟩ = false := block_free b2 1
  have hn0 : ¬ w1.heap.size = p := by omega
  have hn1 : ¬ w.heap.size + 1 = p := by omega
  have hn2 : ¬ w.heap.size + 1 + 1 = p := by omega
  have hz0 : w.heap.size + 1 < w1.heap.size := by omega
  have hz2 : w.heap.size + 1 + 1 < w1.heap.size := by omega
  have D1 := Lib.hid d1
  obtain ⟨a1, n1, c1, rfl⟩ := d1.form
  clear d1 b0 b1 b2 hb1 hw1 CX
  go_wp2_with fail
  go_region_with (go_at_call 22; refine (CR.out _ (by repeat (first | exact HW1.out | refine Below.drew ?_ | refine Below.alloc ?_ (by first | omega | (simp; omega) | simp) _ | refine Below.setCell ?_ (by first | omega | (simp; omega) | simp) _))).mono ?_; rintro en w2 ⟨rfl, hg2, hr2⟩; obtain ⟨gc, gf⟩ := gcell hg2)
  all_goals go_wp2_with fail
  all_goals refine bodyPost_ret (v := .tuple #[.agg #[.slice a1 n1 c1, .int .i64 (e' : Int)], .bool true]) (by simp [results, Try.results19, go_sem, gc, gf, r0, r1, hn0, hn1, hn2, hz0, hz2]) rfl ?_
  all_goals exact do_close (u := _) hp (by repeat (first | exact HW1.out | refine Below.drew ?_ | refine Below.alloc ?_ (by first | omega | (simp; omega) | simp) _ | refine Below.setCell ?_ (by first | omega | (simp; omega) | simp) _)) hg2 hr2 (by repeat (first | exact Below.refl _ _ | refine Below.drew ?_ | refine Below.alloc ?_ (by first | omega | (simp; omega) | simp) _ | refine Below.setCell ?_ (by first | omega | (simp; omega) | simp) _)) HW1.out D1.out (stVar_dead HEL.out HST.out) (stVar_len HST.out)
theorem do_text (w : World) (p : Nat) (v : Value) (l : List UInt8) (e : Nat) (Kd Mo : Int) (h : Rd w p l e) (hr : Reads (· < p) w v (u8s l)) (hl : l.length ≤ 140737488351232) (hel : e ≠ 0 → l = [])
    (hK : 0 ≤ Kd ∧ Kd ≤ 255) (hMo : -2147483648 ≤ Mo ∧ Mo ≤ 2147483647) (hk : Kd % 4 = 1) :
    Calls Try.prog 19 #[.pointer (some ⟨p, 0, none⟩), .agg #[v, .int .i64 (e : Int)], .agg #[.int .u8 Kd, .int .i32 Mo]] w (DoPost w p l) := by
  obtain ⟨e', n, l', hst⟩ : ∃ e' n l', stText (capM Mo) e l = (e', n, l') := ⟨_, _, _, rfl⟩
  have hp := h.lt
  have CX := Lib.hid (fun (u : World) (hu : Below w.heap.size w u) => xText_st (· < p) u v l l' n e e' Mo (fun g hg => Nat.lt_of_lt_of_le (Nat.lt_trans hg hp) hu.size) (reads_on hr (fun g hg => Nat.lt_trans hg hp) hu) (by omega) hst)
  have CR := Lib.hid (fun (u : World) (hu : Below w.heap.size w u) => rText_st u p l l' n e e' Mo (h.keep hu) (by omega) (by omega) hst)
  obtain ⟨av, nv, cv, rfl⟩ := hr.form
  obtain ⟨hK1, hK2⟩ := hK
  obtain ⟨hM1, hM2⟩ := hMo
  have hk0 : (Kd % 4 == 0) = false := by simp [hk]
  have hk1 : (Kd % 4 == 1) = true := by simp [hk]
  have HST := Lib.hid hst
  have HEL := Lib.hid hel
  clear hst hel hr h hk
  go_enter Try.func19, Try.ntmps19
  go_wp2_with fail
  refine (CX.out _ ?hcb).mono ?_
  case hcb => exact (below_new2 w _ _).alloc (by simp; omega) _
  rintro en w1 ⟨v1, rfl, d1, hb1⟩
  obtain ⟨b0, b1, b2⟩ := three_blocks hb1
  have hz1 : w.heap.size + 2 < w1.heap.size := by have := hb1.size; simp at this; omega
  have hw1 : Below w.heap.size w w1 := ((below_new2 w _ _).alloc (by simp; omega) _).trans (hb1.mono (by simp; omega))
  have HW1 := Lib.hid hw1
  have k0 : w1.cell? ⟨w.heap.size + 1, 0, none⟩ = some (.int .u8 Kd) := block_cell b1 0
  have k1 : w1.cell? ⟨w.heap.size + 1, 1, none⟩ = some (.int .i32 Mo) := block_cell b1 1
  have r0 : w1.cell? ⟨w.heap.size + 1 + 1, 0, none⟩ = some (.slice none 0 0) := block_cell b2 0
  have r1 : w1.cell? ⟨w.heap.size + 1 + 1, 1, none⟩ = some (.int .i64 0) := block_cell b2 1
  have f0 : w1.frozen? ⟨w.heap.size + 1 + 1, 0, none⟩ = false := block_free b2 0
  have f1 : w1.frozen? ⟨w.heap.size + 1 + 1, 1, none⟩ = false := block_free b2 1
  have hn0 : ¬ w1.heap.size = p := by omega
  have hn1 : ¬ w.heap.size + 1 = p := by omega
  have hn2 : ¬ w.heap.size + 1 + 1 = p := by omega
  have hz0 : w.heap.size + 1 < w1.heap.size := by omega
  have hz2 : w.heap.size + 1 + 1 < w1.heap.size := by omega
  have D1 := Lib.hid d1
  obtain ⟨a1, n1, c1, rfl⟩ := d1.form
  clear d1 b0 b1 b2 hb1 hw1 CX
  go_wp2_with fail
  have hq1 : IntKind.i64.wrap Mo = Mo := IntWalk.i64_in _ (by omega)
  go_region_with (go_at_call 23; refine (CR.out _ (by repeat (first | exact HW1.out | refine Below.drew ?_ | refine Below.alloc ?_ (by first | omega | (simp; omega) | simp) _ | refine Below.setCell ?_ (by first | omega | (simp; omega) | simp) _))).mono ?_; rintro en w2 ⟨rfl, hg2, hr2⟩; obtain ⟨gc, gf⟩ := gcell hg2)
  all_goals go_wp2_with fail
  all_goals refine bodyPost_ret (v := .tuple #[.agg #[.slice a1 n1 c1, .int .i64 (e' : Int)], .bool true]) (by simp [results, Try.results19, go_sem, gc, gf, r0, r1, hn0, hn1, hn2, hz0, hz2]) rfl ?_
  all_goals exact do_close (u := _) hp (by repeat (first | exact HW1.out | refine Below.drew ?_ | refine Below.alloc ?_ (by first | omega | (simp; omega) | simp) _ | refine Below.setCell ?_ (by first | omega | (simp; omega) | simp) _)) hg2 hr2 (by repeat (first | exact Below.refl _ _ | refine Below.drew ?_ | refine Below.alloc ?_ (by first | omega | (simp; omega) | simp) _ | refine Below.setCell ?_ (by first | omega | (simp; omega) | simp) _)) HW1.out D1.out (stText_dead HEL.out HST.out) (stText_len HST.out)
theorem do_word (w : World) (p : Nat) (v : Value) (l : List UInt8) (e : Nat) (Kd Mo : Int) (h : Rd w p l e) (hr : Reads (· < p) w v (u8s l)) (hl : l.length ≤ 140737488351232) (hel : e ≠ 0 → l = [])
    (hK : 0 ≤ Kd ∧ Kd ≤ 255) (hMo : -2147483648 ≤ Mo ∧ Mo ≤ 2147483647) (hk : Kd % 4 = 2) :
    Calls Try.prog 19 #[.pointer (some ⟨p, 0, none⟩), .agg #[v, .int .i64 (e : Int)], .agg #[.int .u8 Kd, .int .i32 Mo]] w (DoPost w p l) := by
  obtain ⟨e', n, l', hst⟩ : ∃ e' n l', stWord e l = (e', n, l') := ⟨_, _, _, rfl⟩
  have hp := h.lt
  have CX := Lib.hid (fun (u : World) (hu : Below w.heap.size w u) => xWord_st (· < p) u v l l' e e' n (fun g hg => Nat.lt_of_lt_of_le (Nat.lt_trans hg hp) hu.size) (reads_on hr (fun g hg => Nat.lt_trans hg hp) hu) hst)
  have CR := Lib.hid (fun (u : World) (hu : Below w.heap.size w u) => rWord_st u p l l' e e' n (h.keep hu) (by omega) hst)
  obtain ⟨av, nv, cv, rfl⟩ := hr.form
  obtain ⟨hK1, hK2⟩ := hK
  obtain ⟨hM1, hM2⟩ := hMo
  have hk0 : (Kd % 4 == 0) = false := by simp [hk]
  have hk1 : (Kd % 4 == 1) = false := by simp [hk]
  have hk2 : (Kd % 4 == 2) = true := by simp [hk]
  have HST := Lib.hid hst
  have HEL := Lib.hid hel
  clear hst hel hr h hk
  go_enter Try.func19, Try.ntmps19
  go_wp2_with fail
  refine (CX.out _ ?hcb).mono ?_
  case hcb => exact (below_new2 w _ _).alloc (by simp; omega) _
  rintro en w1 ⟨v1, rfl, d1, hb1⟩
  obtain ⟨b0, b1, b2⟩ := three_blocks hb1
  have hz1 : w.heap.size + 2 < w1.heap.size := by have := hb1.size; simp at this; omega
  have hw1 : Below w.heap.size w w1 := ((below_new2 w _ _).alloc (by simp; omega) _).trans (hb1.mono (by simp; omega))
  have HW1 := Lib.hid hw1
  have k0 : w1.cell? ⟨w.heap.size + 1, 0, none⟩ = some (.int .u8 Kd) := block_cell b1 0
  have k1 : w1.cell? ⟨w.heap.size + 1, 1, none⟩ = some (.int .i32 Mo) := block_cell b1 1
  have r0 : w1.cell? ⟨w.heap.size + 1 + 1, 0, none⟩ = some (.slice none 0 0) := block_cell b2 0
  have r1 : w1.cell? ⟨w.heap.size + 1 + 1, 1, none⟩ = some (.int .i64 0) := block_cell b2 1
  have f0 : w1.frozen? ⟨w.heap.size + 1 + 1, 0, none⟩ = false := block_free b2 0
  have f1 : w1.frozen? ⟨w.heap.size + 1 + 1, 1, none⟩ = false := block_free b2 1
  have hn0 : ¬ w1.heap.size = p := by omega
  have hn1 : ¬ w.heap.size + 1 = p := by omega
  have hn2 : ¬ w.heap.size + 1 + 1 = p := by omega
  have hz0 : w.heap.size + 1 < w1.heap.size := by omega
  have hz2 : w.heap.size + 1 + 1 < w1.heap.size := by omega
  have D1 := Lib.hid d1
  obtain ⟨a1, n1, c1, rfl⟩ := d1.form
  clear d1 b0 b1 b2 hb1 hw1 CX
  go_wp2_with fail
  go_region_with (go_at_call 24; refine (CR.out _ (by repeat (first | exact HW1.out | refine Below.drew ?_ | refine Below.alloc ?_ (by first | omega | (simp; omega) | simp) _ | refine Below.setCell ?_ (by first | omega | (simp; omega) | simp) _))).mono ?_; rintro en w2 ⟨rfl, hg2, hr2⟩; obtain ⟨gc, gf⟩ := gcell hg2)
  all_goals go_wp2_with fail
  all_goals refine bodyPost_ret (v := .tuple #[.agg #[.slice a1 n1 c1, .int .i64 (e' : Int)], .bool true]) (by simp [results, Try.results19, go_sem, gc, gf, r0, r1, hn0, hn1, hn2, hz0, hz2]) rfl ?_
  all_goals exact do_close (u := _) hp (by repeat (first | exact HW1.out | refine Below.drew ?_ | refine Below.alloc ?_ (by first | omega | (simp; omega) | simp) _ | refine Below.setCell ?_ (by first | omega | (simp; omega) | simp) _)) hg2 hr2 (by repeat (first | exact Below.refl _ _ | refine Below.drew ?_ | refine Below.alloc ?_ (by first | omega | (simp; omega) | simp) _ | refine Below.setCell ?_ (by first | omega | (simp; omega) | simp) _)) HW1.out D1.out (stWord_dead HEL.out HST.out) (stWord_len HST.out)
end Go.Proofs.Ytjmmkebnebhfoaa.NR
