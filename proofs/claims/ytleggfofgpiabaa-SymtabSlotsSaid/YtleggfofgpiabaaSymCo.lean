/-
  Joined texts: SymCopy, SymPD. Nothing here is a statement of the seed.
-/
import Derived.Test.YtleggfofgpiabaaSymPB
import Derived.Deep.CutRange
set_option linter.unusedSimpArgs false
set_option linter.unusedVariables false
/-
  maps.Copy of entries into a table's map. Nothing here is a statement of the seed.
-/
namespace Go.Proofs.Ytleggfofgpiabaa.SP
open Go.RowKit WM NR OM OR SM SR MV
set_option maxHeartbeats 4000000
set_option maxRecDepth 10000
/-- every value is an entry -/
def AllE (f : List UInt8 → Option Value) : Prop := ∀ s v, f s = some v → ∃ e : En, v = enV e
def over (fs fd : List UInt8 → Option Value) (left : List UInt8 → Bool) (s : List UInt8) : Option Value := if (fs s).isSome = true ∧ left s = false then fs s else fd s
theorem copy_any {w : World} {bd bq : Nat} {fd fs : List UInt8 → Option Value} (hd : ME w bd fd) (hs : ME w bq fs) (hne : bd ≠ bq) (hE : AllE fs) {l : List (List UInt8)} (hl : ∀ s, s.length ≤ maxLen → (fd s).isSome = true ∨ (fs s).isSome = true → s ∈ l) (hll : l.length < maxLen) :
    Calls Try.prog 56 #[.map (some bd), .map (some bq)] w fun e u => e = .returned (.tuple #[]) ∧ ME u bd (fun s => if (fs s).isSome = true then fs s else fd s) ∧ w.grownBy u (some bd) := by
  obtain ⟨w1, cnt0, hr, hR, hb1, hs1⟩ := hs.range Try.underlying9 Try.underlying36
  have hlt := hd.lt
  have HD := Lib.hid hd
  have HR0 := Lib.hid hR
  have HB1 := Lib.hid hb1
  have HE := Lib.hid hE
  have HL := Lib.hid hl
  have HLL := Lib.hid hll
  have HN := Lib.hid hne
  clear hd hs hR hb1 hs1 hE hl hll hne
  go_enter Try.func56, Try.ntmps56
  go_wp2_with fail
  clear hr
  go_loopw [4] (fun _ wr => ∃ (left : List UInt8 → Bool) (cnt : Nat), Hid (RangeV Try.prog 9 any wr bq w.heap.size fs left cnt) ∧ Hid (ME wr bd (over fs fd left)) ∧ Hid (Fr (· = bd) w wr)) (fun _ wr => wr.rangeLeft bq w.heap.size)
  case atStart => exact ⟨_, cnt0, HR0, Lib.hid ((HD.out.belowS HB1.out).as fun s _ => by unfold over; cases h : (fs s) <;> simp [h]), Lib.hid (Fr.of_below HB1.out)⟩
  case round =>
    obtain ⟨left, cnt, HR, HM, HF⟩ := hrel
    go_wp2_with (at_next; refine wpList_next_V rfl _ rfl Try.underlying9 enV HE.out rfl HR.out ?_ ?_)
    · intro hl0
      have hl0 := Lib.hid hl0
      go_wp2_with fail
      go_end0
      refine ⟨rfl, HM.out.as fun s hs => ?_, ⟨HF.out.os, HF.out.tape, HF.out.output, HF.out.size, fun i hi hne => HF.out.block i hi (fun e => hne (by rw [e]))⟩⟩
      unfold over
      rw [hl0.out s hs]
      simp
    · intro s e w2 cnt2 hs hlk hf hrg hlt2 hg2 hz2 hen
      obtain ⟨e1, e2, e3, e4, e5⟩ := e
      simp only [enV] at hen
      have hbq := HR.out.map.lt
      have hm2 : ME w2 bd (over fs fd left) := HM.out.kept hg2 (fun e => by have := Option.some.inj e; omega)
      have b3 : Below w2.heap.size w2 (w2.alloc (.cells #[.string (bs e1), .string (bs e2), .int .i64 e3, .int .i64 e4, .int .i64 e5] 33)) := (Below.refl _ _).alloc (Nat.le_refl _) _
      obtain ⟨w4, hr4, hm4, hg4⟩ := (hm2.belowS b3).put Try.underlying9 Try.underlying36 (l := l) (fun x hx hx2 => HL.out x hx (by
        unfold over at hx2
        split at hx2
        · exact Or.inr hx2
        · exact Or.inl hx2)) HLL.out hs (v := enV ⟨e1, e2, e3, e4, e5⟩) rfl
      simp only [enV] at hr4
      have HR4 := Lib.hid ((hrg.belowS b3).kept hg4 (fun e => HN.out (Option.some.inj e).symm) (fun e => by have := Option.some.inj e; omega))
      have HM4 := Lib.hid (hm4.as (g := over fs fd (fun x => left x && !decide (x = s))) fun x _ => by
        by_cases hx : x = s
        · subst hx
          unfold over
          simp [hf]
        · rw [if_neg hx]
          unfold over
          simp [hx])
      have HF4 := Lib.hid (Fr_grown ((Fr_grown HF.out hg2 (fun i hi => Or.inr (by rw [← Option.some.inj hi]; exact Nat.le_refl _))).then b3) hg4 (fun i hi => Or.inl (Option.some.inj hi).symm))
      clear hrg hm2 b3 hm4 hg4 hf hg2 hz2 hlk
      go_wp2_with fail
      go_roundw
      case rel => exact ⟨_, cnt2, HR4, HM4, HF4⟩
      case measure => rw [HR4.out.left_eq, HR.out.left_eq]; omega
end Go.Proofs.Ytleggfofgpiabaa.SP

/-
  The program counts names up or down. Nothing here is a statement of the seed.
-/
namespace Go.Proofs.Ytleggfofgpiabaa.SP
open Go.RowKit WM NR OM OR SM SR MV
set_option maxHeartbeats 4000000
set_option maxRecDepth 10000
/-- what has been counted: entries that have been named, each counted as often -/
def cF (by_ : Int) (l : List En) (ns : List (List UInt8)) (s : List UInt8) : Option Value := if s ∈ ns then entF (bump by_ ns l) s else none
theorem bump_uniq (by_ : Int) (ns : List (List UInt8)) {l : List En} (hu : (l.map (·.nm)).Nodup) : ((bump by_ ns l).map (·.nm)).Nodup := by rw [bump_names]; exact hu
theorem entF_bump (by_ : Int) (ns : List (List UInt8)) {l : List En} (hu : (l.map (·.nm)).Nodup) {e : En} (he : e ∈ l) : entF (bump by_ ns l) e.nm = some (enV { e with refs := e.refs + by_ * ((ns.count e.nm : Nat) : Int) }) :=
  entF_mem (e := { e with refs := e.refs + by_ * ((ns.count e.nm : Nat) : Int) }) (bump_uniq by_ ns hu) (bump_mem.2 ⟨e, he, rfl⟩)
theorem entF_bump_no (by_ : Int) (ns : List (List UInt8)) {l : List En} {s : List UInt8} (h : ∀ e ∈ l, e.nm ≠ s) : entF (bump by_ ns l) s = none :=
  entF_no fun e he => by
    obtain ⟨x, hx, rfl⟩ := bump_mem.1 he
    exact h x hx
theorem cF_yes {by_ : Int} {l : List En} (hu : (l.map (·.nm)).Nodup) {ns : List (List UInt8)} {e : En} (he : e ∈ l) (hs : e.nm ∈ ns) : cF by_ l ns e.nm = some (enV { e with refs := e.refs + by_ * ((ns.count e.nm : Nat) : Int) }) := by
  unfold cF
  rw [if_pos hs, entF_bump by_ ns hu he]
theorem cF_no {by_ : Int} {l : List En} {ns : List (List UInt8)} {s : List UInt8} (hs : s ∉ ns) : cF by_ l ns s = none := if_neg hs
theorem cF_all (by_ : Int) (l : List En) (ns : List (List UInt8)) : AllE (cF by_ l ns) := by
  intro s v h
  unfold cF at h
  split at h
  · by_cases hp : plc (bump by_ ns l) s < 0
    · rw [entF_none hp] at h; cases h
    · rw [entF_some hp] at h; exact ⟨_, (Option.some.inj h).symm⟩
  · cases h
/-- one name more is counted -/
theorem cF_step {by_ : Int} {l : List En} (hu : (l.map (·.nm)).Nodup) {ns : List (List UInt8)} {e : En} (he : e ∈ l) (s : List UInt8) :
    (if s = e.nm then some (enV { e with refs := e.refs + by_ * ((ns.count e.nm : Nat) : Int) + by_ }) else cF by_ l ns s) = cF by_ l (ns ++ [e.nm]) s := by
  by_cases h : s = e.nm
  · subst h
    rw [if_pos rfl, cF_yes hu he (by simp)]
    have e1 : e.refs + by_ * ((ns.count e.nm : Nat) : Int) + by_ = e.refs + by_ * ((ns.count e.nm + 1 : Nat) : Int) := by
      rw [show (((ns.count e.nm + 1 : Nat) : Int)) = (ns.count e.nm : Int) + 1 by omega, Int.mul_add]
      omega
    rw [List.count_append, List.count_singleton_self, ← e1]
  · rw [if_neg h]
    unfold cF
    by_cases h2 : s ∈ ns
    · rw [if_pos h2, if_pos (by simp [h2])]
      by_cases h3 : ∃ x ∈ l, x.nm = s
      · obtain ⟨x, hx, rfl⟩ := h3
        rw [entF_bump by_ ns hu hx, entF_bump by_ _ hu hx, List.count_append, List.count_singleton]
        simp [Ne.symm h]
      · rw [entF_bump_no by_ _ fun x hx hn => h3 ⟨x, hx, hn⟩, entF_bump_no by_ _ fun x hx hn => h3 ⟨x, hx, hn⟩]
    · rw [if_neg h2, if_neg (by simp [h2, h])]
theorem cF_in {by_ : Int} {l : List En} {ns : List (List UInt8)} {s : List UInt8} (h : (cF by_ l ns s).isSome = true) : s ∈ l.map (·.nm) := by
  unfold cF at h
  split at h
  · have := entF_in h
    rwa [bump_names] at this
  · cases h
/-- what is copied at the end -/
theorem cF_over {by_ : Int} {l : List En} (hu : (l.map (·.nm)).Nodup) (ns : List (List UInt8)) (s : List UInt8) : (if (cF by_ l ns s).isSome = true then cF by_ l ns s else entF l s) = entF (bump by_ ns l) s := by
  by_cases h3 : ∃ x ∈ l, x.nm = s
  · obtain ⟨x, hx, rfl⟩ := h3
    by_cases h : x.nm ∈ ns
    · rw [cF_yes hu hx h, entF_bump by_ ns hu hx]
      rfl
    · rw [cF_no h, entF_bump by_ ns hu hx, List.count_eq_zero.2 h, entF_mem hu hx]
      simp
  · have h1 : cF by_ l ns s = none := by
      unfold cF
      split
      · exact entF_bump_no by_ ns fun x hx hn => h3 ⟨x, hx, hn⟩
      · rfl
    rw [h1, entF_bump_no by_ ns fun x hx hn => h3 ⟨x, hx, hn⟩, entF_no fun x hx hn => h3 ⟨x, hx, hn⟩]
    rfl
theorem nmsOf_bump (by_ : Int) (ns : List (List UInt8)) (l : List En) (m : List UInt8) : nmsOf (bump by_ ns l) m = nmsOf l m := by
  unfold nmsOf bump
  rw [List.filter_map, List.map_map]
  rfl
/-- all goes well, or it is told -/
theorem cnt_both {by_ : Int} (hby : by_ = 1 ∨ by_ = -1) {l : List En} (hu : (l.map (·.nm)).Nodup) {ns : List (List UInt8)} (hx : ∀ n ∈ ns, 0 ≤ plc l n) (hr : ∀ e ∈ l, 0 ≤ e.refs ∧ e.refs ≤ 8) :
    ((cntF by_ l ns).2 = 0 ∧ ∀ e ∈ l, 0 ≤ e.refs + by_ * ((ns.count e.nm : Nat) : Int) ∧ e.refs + by_ * ((ns.count e.nm : Nat) : Int) ≤ 8) ∨
    ((cntF by_ l ns).2 = (if by_ = 1 then 25 else 2) ∧ ∃ e ∈ l, ¬ (0 ≤ e.refs + by_ * ((ns.count e.nm : Nat) : Int) ∧ e.refs + by_ * ((ns.count e.nm : Nat) : Int) ≤ 8)) := by
  rcases hby with rfl | rfl
  · rcases cnt_up ns l hu hx hr with ⟨h1, h2⟩ | ⟨h1, e, he, h2⟩
    · exact Or.inl ⟨h1, fun e he => by have := hr e he; have := h2 e he; omega⟩
    · exact Or.inr ⟨h1, e, he, by omega⟩
  · rcases cnt_down ns l hu hx hr with ⟨h1, h2⟩ | ⟨h1, e, he, h2⟩
    · exact Or.inl ⟨h1, fun e he => by have := hr e he; have := h2 e he; omega⟩
    · exact Or.inr ⟨h1, e, he, by omega⟩
theorem count_any {S : Nat → Prop} {w : World} {a be bm : Nat} {fm : List UInt8 → Option Value} {t : Tb} (h : Pt S w a be bm fm t) (hg : SM.Good t) (hb : t.mods.length ≤ 10000 ∧ t.L.length ≤ 80000) {by_ : Int} (hby : by_ = 1 ∨ by_ = -1) {na : Option Addr} {nn nc : Nat} {xs : List (List UInt8)} (hx : Reads (fun g => ¬ S g ∧ g < w.heap.size) w (.slice na nn nc) (strs xs)) (hxs : ∀ x ∈ xs, x.length ≤ 9223372036854775807) (hxl : xs.length ≤ 1000) :
    Calls Try.prog 31 #[.pointer (some ⟨a, 0, none⟩), .slice na nn nc, .int .i64 by_, .int .i64 (if by_ = 1 then 25 else 2)] w fun e u => e = .returned (.int .i64 (countM t xs by_).2) ∧ Chg S w (.pointer (some ⟨a, 0, none⟩)) (countM t xs by_).1 u := by
  obtain ⟨n1, m1, m2⟩ := reads_len hx
  rw [strs_len] at n1
  unfold maxLen at m2
  have hnn : nn ≤ 1000 := by omega
  have hnc : (nn : Int) ≤ nc := by omega
  have hbb : -1 ≤ by_ ∧ by_ ≤ 1 := by omega
  have hu := srt_uniq hg.srt
  have HH := Lib.hid h
  have HG := Lib.hid hg
  have HB := Lib.hid hb
  have HX := Lib.hid hx
  have HL := Lib.hid n1
  have HXS := Lib.hid hxs
  have HU := Lib.hid hu
  have HBY := Lib.hid hby
  have ha := HH.out.a_ne
  have hal := HH.out.hd.lt
  have hbe := HH.out.lt be HH.out.sb
  have hmm := @run_makeMap Try.prog
  obtain ⟨bey, hbey⟩ : ∃ x : Int, x = (if by_ = 1 then 25 else 2) := ⟨_, rfl⟩
  rw [← hbey]
  have HBEY := Lib.hid hbey
  obtain ⟨R, hR⟩ : ∃ R, R = countM t xs by_ := ⟨_, rfl⟩
  rw [← hR]
  have HR := Lib.hid hR
  clear h hg hb hx n1 m1 m2 hxs hu hby hbey hR hxl
  go_enter Try.func31, Try.ntmps31
  go_wp2_with fail
  go_loopw [21] (fun v21 wr => ∃ k : Nat, k ≤ nn ∧ v21 = .int .i64 (k : Int) ∧ Hid (ME wr w.heap.size (cF by_ t.L (xs.take k))) ∧ Hid (Below w.heap.size w wr) ∧ Hid (∀ s ∈ xs.take k, 0 ≤ plc t.L s)) (fun v21 _ => nn - (intOf v21).toNat)
  case atStart => exact ⟨0, by omega, rfl, Lib.hid ((MapV.made w).as fun s _ => by simp [cF]), Lib.hid ((Below.refl _ _).alloc (Nat.le_refl _) _), Lib.hid (fun s hs => by simp at hs)⟩
  case round =>
    obtain ⟨k, hk, rfl, HE, HF, HP⟩ := hrel
    by_cases hlt : k < nn
    · have hltz : (k : Int) < nn := by omega
      have k1 : k < xs.length := by rw [HL.out]; exact hlt
      obtain ⟨gb, off, rfl, q1, c1⟩ := reads_atG HX.out (u := wr) (fun g hg _ => HF.out.block g hg.2) hlt
      rw [strs_at k1] at c1
      have hxm := getD_mem' (l := xs) (d := []) k1
      have HXM := Lib.hid hxm
      have HK1 := Lib.hid k1
      have hsl := HXS.out _ hxm
      have hl1 := HE.out.look_ok (T := 36) Try.underlying9 Try.underlying36 zeroE rfl hsl
      by_cases h1 : xs.getD k [] ∈ xs.take k
      · obtain ⟨e, he, hn⟩ := plc_mem.1 (HP.out _ h1)
        have hE := Lib.hid he
        have hN := Lib.hid hn
        have H1 := Lib.hid h1
        have hbd := HG.out.bd e he
        have hct : (xs.take k).count e.nm ≤ 1000 := Nat.le_trans List.count_le_length (by rw [List.length_take]; omega)
        rw [← hn] at hl1 h1 c1
        rw [cF_yes HU.out he h1] at hl1
        obtain ⟨r, hr⟩ : ∃ r, r = e.refs + by_ * (((xs.take k).count e.nm : Nat) : Int) := ⟨_, rfl⟩
        rw [← hr] at hl1
        have hrb : -2000 ≤ r ∧ r ≤ 2000 := by
          rcases HBY.out with rfl | rfl <;> omega
        have hRR := Lib.hid hr
        clear hr he hn h1 hbd hct hxm k1 hsl
        obtain ⟨x1, x2, x3, x4, x5⟩ := e
        simp only [enV, Option.getD_some, Option.isSome_some] at hl1 c1
        obtain ⟨X1, hX1⟩ : ∃ X, X = bs x1 := ⟨_, rfl⟩
        obtain ⟨X2, hX2⟩ : ∃ X, X = bs x2 := ⟨_, rfl⟩
        rw [← hX1] at hl1 c1
        rw [← hX2] at hl1
        have HX1 := Lib.hid hX1
        have HX2 := Lib.hid hX2
        clear hX1 hX2
        obtain ⟨r1, r2⟩ := hrb
        obtain ⟨b1, b2⟩ := hbb
        have hxl := NM.chk_short x1 (HG.out.nms _ hE.out)
        have hb2 : Below wr.heap.size wr (wr.alloc (.cells #[.string X1, .string X2, .int .i64 x3, .int .i64 x4, .int .i64 (r + by_)] 33)) := (Below.refl _ _).alloc (Nat.le_refl _) _
        obtain ⟨w4, hr4, hm4, hg4⟩ := (HE.out.belowS hb2).put Try.underlying9 Try.underlying36 (l := t.L.map (·.nm)) (fun s _ hs => cF_in hs) (by rw [List.length_map]; have := HB.out; unfold maxLen; omega) (s := x1) (by unfold maxLen; omega) (v := enV ⟨x1, x2, x3, x4, r + by_⟩) rfl
        simp only [enV] at hr4
        rw [← HX1.out, ← HX2.out] at hr4
        have HE4 := Lib.hid (hm4.as (g := cF by_ t.L (xs.take (k + 1))) fun s _ => by
          have := cF_step (by_ := by_) HU.out (ns := xs.take k) hE.out s
          rw [take_succ_getD xs [] k HK1.out, ← hN.out, ← this, hRR.out])
        have HF4 := Lib.hid ((HF.out.trans (hb2.mono HF.out.size)).grown hg4 (Nat.le_trans HF.out.size hb2.size) (fun j hj => by cases hj; exact Nat.le_refl _))
        have HP4 := Lib.hid (fun s (hs : s ∈ xs.take (k + 1)) => show 0 ≤ plc t.L s by
          rcases (mem_take_succ xs [] k HK1.out s).1 hs with h | h
          · exact HP.out s h
          · rw [h, ← hN.out]; exact plc_mem.2 ⟨_, hE.out, rfl⟩)
        clear hxl hb2 hm4 hg4
        go_wp2_with fail
        go_roundw
        case rel => exact ⟨k + 1, by omega, by go_num, HE4, HF4, HP4⟩
        case measure => simp [intOf]; omega
      · rw [cF_no h1] at hl1
        simp only [Option.getD_none, Option.isSome_none] at hl1
        have hb1 : Below wr.heap.size wr (wr.alloc (.cells #[.string ⟨#[]⟩, .string ⟨#[]⟩, .int .i64 0, .int .i64 0, .int .i64 0] 33)) := (Below.refl _ _).alloc (Nat.le_refl _) _
        have HH2 := HH.out.below (HF.out.trans (hb1.mono HF.out.size))
        have c0 := HH2.cell0
        have hl2 := HH2.look_ok hsl
        by_cases hp : ∃ e ∈ t.L, e.nm = xs.getD k []
        · obtain ⟨e, he, hn⟩ := hp
          have hE := Lib.hid he
          have hN := Lib.hid hn
          have hbd := HG.out.bd e he
          have hct : (xs.take k).count e.nm = 0 := by rw [hn]; exact List.count_eq_zero.2 h1
          rw [← hn] at hl1 hl2 c1
          rw [entF_mem HU.out he] at hl2
          have hCT := Lib.hid hct
          have hrb : -2000 ≤ e.refs ∧ e.refs ≤ 2000 := by omega
          clear he hn h1 hbd hct hxm k1 hsl hb1 HH2
          obtain ⟨x1, x2, x3, x4, r⟩ := e
          simp only [enV, Option.getD_some, Option.isSome_some] at hl1 hl2 c1
          obtain ⟨X1, hX1⟩ : ∃ X, X = bs x1 := ⟨_, rfl⟩
          obtain ⟨X2, hX2⟩ : ∃ X, X = bs x2 := ⟨_, rfl⟩
          rw [← hX1] at hl1 hl2 c1
          rw [← hX2] at hl2
          have HX1 := Lib.hid hX1
          have HX2 := Lib.hid hX2
          clear hX1 hX2
          simp only at hrb
          obtain ⟨r1, r2⟩ := hrb
          obtain ⟨b1, b2⟩ := hbb
          have hxl := NM.chk_short x1 (HG.out.nms _ hE.out)
          have hb2 : Below wr.heap.size wr (wr.alloc (.cells #[.string X1, .string X2, .int .i64 x3, .int .i64 x4, .int .i64 (r + by_)] 33)) := (Below.refl _ _).alloc (Nat.le_refl _) _
          obtain ⟨w4, hr4, hm4, hg4⟩ := (HE.out.belowS hb2).put Try.underlying9 Try.underlying36 (l := t.L.map (·.nm)) (fun s _ hs => cF_in hs) (by rw [List.length_map]; have := HB.out; unfold maxLen; omega) (s := x1) (by unfold maxLen; omega) (v := enV ⟨x1, x2, x3, x4, r + by_⟩) rfl
          simp only [enV] at hr4
          rw [← HX1.out, ← HX2.out] at hr4
          have HE4 := Lib.hid (hm4.as (g := cF by_ t.L (xs.take (k + 1))) fun s _ => by
            have := cF_step (by_ := by_) HU.out (ns := xs.take k) hE.out s
            rw [take_succ_getD xs [] k HK1.out, ← hN.out, ← this, hCT.out, Int.natCast_zero, Int.mul_zero, Int.add_zero])
          have HF4 := Lib.hid ((HF.out.trans (hb2.mono HF.out.size)).grown hg4 (Nat.le_trans HF.out.size hb2.size) (fun j hj => by cases hj; exact Nat.le_refl _))
          have HP4 := Lib.hid (fun s (hs : s ∈ xs.take (k + 1)) => show 0 ≤ plc t.L s by
            rcases (mem_take_succ xs [] k HK1.out s).1 hs with h | h
            · exact HP.out s h
            · rw [h, ← hN.out]; exact plc_mem.2 ⟨_, hE.out, rfl⟩)
          clear hxl hb2 hm4 hg4
          go_wp2_with fail
          go_roundw
          case rel => exact ⟨k + 1, by omega, by go_num, HE4, HF4, HP4⟩
          case measure => simp [intOf]; omega
        · rw [entF_no fun e he hn => hp ⟨e, he, hn⟩] at hl2
          simp only [Option.getD_none, Option.isSome_none] at hl2
          have HRC := Lib.hid (show R = (t, 8) by
            rw [HR.out]
            unfold countM
            rw [if_pos ⟨_, hxm, by
              have h1 := plc_ge t.L (xs.getD k [])
              by_cases h0 : 0 ≤ plc t.L (xs.getD k [])
              · exact absurd (plc_mem.1 h0) hp
              · omega⟩])
          have HFB := Lib.hid (HF.out.trans (hb1.mono HF.out.size))
          generalize bs (xs.getD k []) = X at *
          clear hp hxm k1 hsl hb1 HH2 h1
          go_wp2_with fail
          go_ret
          exact ⟨by rw [HRC.out]; rfl, by rw [HRC.out]; exact HH.out.chg_below HFB.out⟩
    · obtain rfl : k = nn := by omega
      have hxk : xs.take k = xs := List.take_of_length_le (by rw [HL.out]; exact Nat.le_refl _)
      have HE1 := Lib.hid (by have := HE.out; rw [hxk] at this; exact this : ME wr w.heap.size (cF by_ t.L xs))
      have HP1 := Lib.hid (by have := HP.out; rw [hxk] at this; exact this : ∀ s ∈ xs, 0 ≤ plc t.L s)
      clear hxk HE HP
      obtain ⟨w1, cnt0, hr, hR, hb1, hs1⟩ := HE1.out.range Try.underlying9 Try.underlying36
      have HR0 := Lib.hid hR
      have HB1 := Lib.hid (HF.out.trans (hb1.mono HF.out.size))
      have CB := Lib.hid (cnt_both HBY.out HU.out HP1.out (fun e he => by have := HG.out.bd e he; omega))
      have HRN := Lib.hid (show R = if (cntF by_ t.L xs).2 = 0 then (⟨t.mods, (cntF by_ t.L xs).1⟩, 0) else (t, (cntF by_ t.L xs).2) by
        rw [HR.out]
        unfold countM
        rw [if_neg (fun ⟨n, hn, h⟩ => by have := HP1.out n hn; omega)])
      have hwle := HF.out.size
      obtain ⟨w7, hw7⟩ : ∃ x, x = wr := ⟨_, rfl⟩
      subst hw7
      clear hR hb1 hs1 HE1 hmm
      go_wp2_with fail
      clear hr
      generalize w7.heap.size = r0 at hwle HR0 ⊢
      go_loopw [15] (fun _ wr => ∃ (left : List UInt8 → Bool) (cnt : Nat), Hid (RangeV Try.prog 9 any wr w.heap.size r0 (cF by_ t.L xs) left cnt) ∧ Hid (Below w.heap.size w wr) ∧ Hid (∀ s (e : En), s.length ≤ maxLen → cF by_ t.L xs s = some (enV e) → left s = false → 0 ≤ e.refs ∧ e.refs ≤ 8)) (fun _ wr => wr.rangeLeft w.heap.size r0)
      case atStart => exact ⟨_, cnt0, HR0, HB1, Lib.hid (fun s e hs h1 h2 => by rw [h1] at h2; cases h2)⟩
      case round =>
        obtain ⟨left, cnt, HRG, HFB, HIN⟩ := hrel
        go_wp2_with (at_next; refine wpList_next_V rfl _ rfl Try.underlying9 enV (cF_all by_ t.L xs) rfl HRG.out ?_ ?_)
        · intro hl0
          have HL0 := Lib.hid hl0
          clear hl0
          have HPT := Lib.hid (HH.out.below HFB.out)
          have c0 := HPT.out.cell0
          have C := Lib.hid (copy_any HPT.out.en HRG.out.map (by omega) (cF_all by_ t.L xs) (l := t.L.map (·.nm)) (fun s _ hs => hs.elim entF_in cF_in) (by rw [List.length_map]; have := HB.out; unfold maxLen; omega))
          go_wp2_with (go_at_call 56; (with_reducible refine C.out.mono ?_); rintro e w5 ⟨rfl, hm5, hg5⟩; have HM5 := Lib.hid hm5; have HG5 := Lib.hid hg5; clear hm5 hg5)
          go_ret
          have hall : ∀ e ∈ t.L, 0 ≤ e.refs + by_ * ((xs.count e.nm : Nat) : Int) ∧ e.refs + by_ * ((xs.count e.nm : Nat) : Int) ≤ 8 := fun e he => by
            by_cases hm : e.nm ∈ xs
            · exact HIN.out e.nm _ (HH.out.zn e he) (cF_yes HU.out he hm) (HL0.out _ (HH.out.zn e he))
            · rw [List.count_eq_zero.2 hm]
              have := HG.out.bd e he
              simp
              omega
          have h0 : (cntF by_ t.L xs).2 = 0 := by
            rcases CB.out with ⟨h, _⟩ | ⟨_, e, he, h⟩
            · exact h
            · exact absurd (hall e he) h
          have hR : R = (⟨t.mods, bump by_ xs t.L⟩, 0) := by
            rw [HRN.out, if_pos h0, cnt_bump by_ xs t.L HU.out HP1.out h0]
          rw [hR]
          refine ⟨rfl, S, ⟨a, be, bm, fm, rfl, ?_⟩, fun g hg => Or.inl hg, Fr_grown (Fr.of_below HFB.out) HG5.out (fun i hi => Or.inl (by rw [← Option.some.inj hi]; exact HH.out.sb))⟩
          have k5 : ∀ g, S g → g ≠ be → w5.heap[g]? = w.heap[g]? := fun g hg hne => by
            have h1 := HPT.out.lt g hg
            exact (HG5.out.block g h1 (fun e => hne (Option.some.inj e))).trans (HFB.out.block g (HH.out.lt g hg))
          refine ⟨HH.out.hd.as (k5 a HH.out.sa ha.1), HM5.out.as fun s _ => cF_over HU.out xs s, HH.out.md.same (k5 bm HH.out.sm (fun e => HH.out.ne e.symm)), ?_, HH.out.ne, HH.out.sa, HH.out.sb, HH.out.sm, fun g hg => Nat.lt_of_lt_of_le (HPT.out.lt g hg) HG5.out.size, ?_, HH.out.zm⟩
          · intro m' hm'
            refine ⟨fun hi => ?_, (HH.out.mi m' hm').2⟩
            obtain ⟨b1, b2, b3, nms, h1, h2, h3⟩ := (HH.out.mi m' hm').1 hi
            exact ⟨b1, b2, b3, nms, h1, h2.keep fun g hg _ => k5 g hg.1 hg.2.1, by rw [nmsOf_bump]; exact h3⟩
          · intro e he
            obtain ⟨x, hx, rfl⟩ := bump_mem.1 he
            exact HH.out.zn x hx
        · intro s e w2 cnt2 hs hlk hf hrg hlt2 hg2 hz2 hen
          have HFE := Lib.hid hf
          have HSL := Lib.hid hs
          obtain ⟨e1, e2, e3, e4, e5⟩ := e
          simp only [enV] at hen
          have hrle : w.heap.size ≤ r0 := hwle
          have hb3 : Below w2.heap.size w2 (w2.alloc (.cells #[.string (bs e1), .string (bs e2), .int .i64 e3, .int .i64 e4, .int .i64 e5] 33)) := (Below.refl _ _).alloc (Nat.le_refl _) _
          have hbw := HFB.out.grown hg2 HFB.out.size (fun j hj => by cases hj; exact hrle)
          have HFB3 := Lib.hid (hbw.trans (hb3.mono hbw.size))
          have HRG3 := Lib.hid (hrg.belowS hb3)
          clear hrg hf hs hlk hg2 hz2 hb3 hbw
          by_cases hi : 0 ≤ e5 ∧ e5 ≤ 8
          · obtain ⟨i1, i2⟩ := hi
            have HIN3 := Lib.hid (fun (x : List UInt8) (e : En) (hx : x.length ≤ maxLen) (h1 : cF by_ t.L xs x = some (enV e)) (h2 : (left x && !decide (x = s)) = false) => show 0 ≤ e.refs ∧ e.refs ≤ 8 by
              by_cases hxs : x = s
              · subst hxs
                rw [HFE.out] at h1
                have := Option.some.inj h1
                simp only [enV, Value.agg.injEq, Array.mk.injEq, List.cons.injEq, Value.int.injEq, true_and, and_true] at this
                omega
              · simp [hxs] at h2
                exact HIN.out x e hx h1 h2)
            have j1 : ¬ (e5 < 0) := by omega
            have j2 : ¬ (e5 > 8) := by omega
            go_wp2_with fail
            go_roundw
            case rel => exact ⟨_, cnt2, HRG3, HFB3, HIN3⟩
            case measure => rw [HRG3.out.left_eq, HRG.out.left_eq]; omega
          · have hR : R = (t, bey) := by
              rcases CB.out with ⟨_, h⟩ | ⟨h, _⟩
              · exfalso
                apply hi
                have h5 := HFE.out
                unfold cF at h5
                split at h5
                · have hp : ¬ plc (bump by_ xs t.L) s < 0 := fun hp => by rw [entF_none hp] at h5; cases h5
                  rw [entF_some hp] at h5
                  have hmem := getD_mem (l := bump by_ xs t.L) (k := (plc (bump by_ xs t.L) s).toNat) (by have := plc_lt (bump by_ xs t.L) s; omega)
                  have h6 := Option.some.inj h5
                  obtain ⟨x, hx, hxe⟩ := bump_mem.1 hmem
                  rw [hxe] at h6
                  simp only [enV, Value.agg.injEq, Array.mk.injEq, List.cons.injEq, Value.int.injEq, true_and, and_true] at h6
                  have := h x hx
                  omega
                · cases h5
              · rw [HRN.out, if_neg (by rw [h]; split <;> omega), h, HBEY.out]
            have HRR := Lib.hid hR
            clear hR
            by_cases j1 : e5 < 0
            · clear hi
              go_wp2_with fail
              go_ret
              exact ⟨by rw [HRR.out]; rfl, by rw [HRR.out]; exact HH.out.chg_below HFB3.out⟩
            · have j2 : e5 > 8 := by omega
              clear hi
              go_wp2_with fail
              go_ret
              exact ⟨by rw [HRR.out]; rfl, by rw [HRR.out]; exact HH.out.chg_below HFB3.out⟩
theorem hold_any {S : Nat → Prop} {w : World} {v : Value} {t : Tb} (h : PT S w v t) (hg : SM.Good t) (hb : t.mods.length ≤ 10000 ∧ t.L.length ≤ 80000) {na : Option Addr} {nn nc : Nat} {xs : List (List UInt8)} (hx : Reads (fun g => ¬ S g ∧ g < w.heap.size) w (.slice na nn nc) (strs xs)) (hxs : ∀ x ∈ xs, x.length ≤ 9223372036854775807) (hxl : xs.length ≤ 1000) :
    Calls Try.prog 19 #[v, .slice na nn nc] w fun e u => e = .returned (.int .i64 (countM t xs 1).2) ∧ Chg S w v (countM t xs 1).1 u := by
  obtain ⟨a, be, bm, fm, rfl, h⟩ := h
  have C0 := count_any h hg hb (by_ := 1) (Or.inl rfl) hx hxs hxl
  rw [if_pos rfl] at C0
  have C := Lib.hid C0
  clear C0 h hg hb hx hxs hxl
  go_enter Try.func19, Try.ntmps19
  go_wp2_with (go_at_call 31; (with_reducible refine C.out.mono ?_); rintro e w1 ⟨rfl, h1⟩; have H1 := Lib.hid h1; clear h1)
  go_ret
  exact ⟨rfl, H1.out⟩
end Go.Proofs.Ytleggfofgpiabaa.SP
