/-
  The reference's step, whatever the hart and the memory. Nothing here is a statement of the seed.
-/
import Derived.Test.YtihcellcdkhadaaGreatHartRQA
import Derived.Test.YtihcellcdkhadaaGreatHartRQB
import Derived.Test.YtihcellcdkhadaaGreatHartRQC
import Derived.Test.YtihcellcdkhadaaGreatHartRQD
import Derived.Test.YtihcellcdkhadaaGreatHartRQE
import Derived.Test.YtihcellcdkhadaaGreatHartRQF
import Derived.Test.YtihcellcdkhadaaGreatHartRQH
import Derived.Test.YtihcellcdkhadaaGreatHartDuo
set_option linter.unusedSimpArgs false
set_option linter.unusedVariables false
namespace Go.Proofs.YtihcellcdkhadaaGreat.HF
open Go.RowKit PM PR PF MM MR MF HM HR
open IM
set_option maxHeartbeats 4000000
set_option maxRecDepth 10000
theorem sto_pg (M : Mm) (a x e o : Int) : (stoM M a x e o).pg = M.pg ∧ (stoM M a x e o).ws.length = M.ws.length := by
  unfold stoM setW
  split <;> simp
/-- an instruction, whatever it is -/
theorem rop_all {G : Nat → Prop} {w : World} {gr C gw d : Nat} {M : Mm} {a : Option Addr} {n c : Nat} {pc : Int} {R : Nat → Int} {l : List Int} {ep home : Int} (rm : Rm w gr C gw d M) (mk : MOk M) (hr : Reads G w (.slice a n c) (wcs l)) (hn : n * 4 ≤ 140737488355328) (xe fw fo : Int) (o dd x y m : Int) (io : IM.InsOk o dd x y m) (okh : HOk ⟨pc, R, l, 0, ep, home⟩)
    (CF : ∀ u, Below w.heap.size w u → Calls Tryz.prog 32 #[rV M.gt gr M.pg.length C gw M.ws.length d, .int .u32 pc, .int .u64 ep] u fun e w' => e = .returned (.tuple #[.int .u32 fw, .int .u16 fo, .bool true]) ∧ Below u.heap.size u w')
    (CD : ∀ u, Calls Tryz.prog 34 #[.int .u32 fw] u fun e w' => e = .returned (.tuple #[.agg #[.int .u8 o, .int .u8 dd, .int .u8 x, .int .u8 y, .int .i32 m], .int .i64 0]) ∧ Below u.heap.size u w') :
    Calls Tryz.prog 9 #[hV pc R a n c 0 ep home, rV M.gt gr M.pg.length C gw M.ws.length d, .int .u64 xe] w (RDid (doR ⟨pc, R, l, 0, ep, home⟩ M fo xe o dd x y m) gr C gw w) := by
  have hlen := hr.len.1
  obtain ⟨io1, io2, hd0, hd1, hx0, hx1, hy0, hy1, hm0, hm1, _⟩ := id io
  have hd : 0 ≤ dd ∧ dd ≤ 7 := ⟨hd0, hd1⟩
  have hx : 0 ≤ x ∧ x ≤ 7 := ⟨hx0, hx1⟩
  have hy : 0 ≤ y ∧ y ≤ 7 := ⟨hy0, hy1⟩
  have hm : -1048576 ≤ m ∧ m ≤ 1048575 := ⟨hm0, hm1⟩
  have hm64 : o = 21 → 0 ≤ m ∧ m ≤ 63 := fun e => by subst e; unfold IM.InsOk at io; omega
  have bX : B32 (getR R x) := getR_ok okh x
  have bY : B32 (getR R y) := getR_ok okh y
  have T0 : IF.Says Tryz.prog 36 #[.int .u32 pc, .agg #[.int .u8 o, .int .u8 dd, .int .u8 x, .int .u8 y, .int .i32 m]] (IF.tgtV pc o dd x y m) := IF.refTarget_any pc o dd x y m okh.pc (IF.good_fit io)
  have hT : (o = 14 ∨ o = 15 ∨ o = 16 ∨ o = 17) → IF.Says Tryz.prog 36 #[.int .u32 pc, .agg #[.int .u8 o, .int .u8 dd, .int .u8 x, .int .u8 y, .int .i32 m]] (.tuple #[.int .u32 (goX pc o m), .bool true]) := fun ho => by
    have hg : IF.goB o dd x y m = true := by
      unfold IF.goB
      have := (IM.chk_good io1 hd0 hx0 hy0).2 io
      rw [decide_eq_true_eq]
      exact ⟨this, ho⟩
    unfold IF.tgtV at T0
    rw [hg] at T0
    exact T0
  have hL := fun AT bA u (hb : Below w.heap.size w u) => refLoad_any (rm.belowS hb) mk AT ep bA
  have hS := fun AT bA u (hb : Below w.heap.size w u) => refStore_any (rm.belowS hb) mk AT (getR R dd) ep fo bA
  have hSF := fun k (u : World) (a' : Option Addr) (c' : Nat) => refSafe_any pc R a' n c' 0 ep home xe k u
  have CC : o = 0 ∨ o = 1 ∨ o = 2 ∨ (3 ≤ o ∧ o ≤ 10) ∨ o = 11 ∨ o = 12 ∨ o = 13 ∨ o = 14 ∨ o = 15 ∨ o = 16 ∨ o = 17 ∨ o = 18 ∨ o = 19 ∨ o = 20 ∨ o = 21 := by omega
  rcases CC with rfl | rfl | rfl | hK | rfl | rfl | rfl | rfl | rfl | rfl | rfl | rfl | rfl | rfl | rfl
  · exact rop_0 rm hr hn xe fw fo dd x y m hd hx hy hm CF CD _ _ T0
  · exact rop_1 rm hr hn xe fw fo dd x y m hd hx hy hm CF CD _ _ T0
  · exact rop_2 rm hr hn xe fw fo dd x y m hd hx hy hm CF CD _ _ T0
  · have e : doR ⟨pc, R, l, 0, ep, home⟩ M fo xe o dd x y m = setR ⟨pc, R, l, 0, ep, home⟩ M dd (reck o (getR R x) (getR R y)) := by
      unfold doR
      rw [if_neg (by omega), if_neg (by omega), if_neg (by omega), if_pos (by omega)]
    rw [e]
    exact rop_r rm hr hn xe fw fo o dd x y m hd hx hy hm CF CD _ _ T0 hK bX bY (by simp; omega) (by simp; omega) (by simp; omega) (by simp; omega) (by simp; omega) (by simp; omega) (by simp; omega) (by simp; omega) (by simp; omega) (by simp; omega) (by simp; omega) (by simp; omega) (by simp; omega) (by simp; omega)
  · exact rop_11 rm hr hn xe fw fo dd x y m hd hx hy hm CF CD _ _ T0
  · show Calls _ _ _ _ (RDid (loadR ⟨pc, R, l, 0, ep, home⟩ M dd ((getR R x + m % 4294967296) % 4294967296)) gr C gw w)
    have bA : B32 ((getR R x + m % 4294967296) % 4294967296) := b32_mod _
    have C1 := hL _ bA
    unfold loadR
    show Calls _ _ _ _ (RDid (if loadB M ((getR R x + m % 4294967296) % 4294967296) ep = true then _ else _) gr C gw w)
    cases hB : loadB M ((getR R x + m % 4294967296) % 4294967296) ep
    · rw [hB] at C1
      rw [if_neg (by decide)]
      exact rop_12n rm hr hn xe fw fo dd x y m hd hx hy hm CF CD _ _ T0 _ C1
    · rw [hB] at C1
      rw [if_pos rfl]
      exact rop_12y rm hr hn xe fw fo dd x y m hd hx hy hm CF CD _ _ T0 _ C1
  · show Calls _ _ _ _ (RDid (storeR ⟨pc, R, l, 0, ep, home⟩ M fo ((getR R x + m % 4294967296) % 4294967296) (getR R dd)) gr C gw w)
    have bA : B32 ((getR R x + m % 4294967296) % 4294967296) := b32_mod _
    have C1 := hS _ bA
    unfold storeR
    show Calls _ _ _ _ (RDid (if stoB M ((getR R x + m % 4294967296) % 4294967296) ep fo = true then _ else _) gr C gw w)
    obtain ⟨p1, p2⟩ := sto_pg M ((getR R x + m % 4294967296) % 4294967296) (getR R dd) ep fo
    cases hB : stoB M ((getR R x + m % 4294967296) % 4294967296) ep fo
    · rw [hB] at C1
      rw [if_neg (by decide)]
      exact rop_13n rm hr hn xe fw fo dd x y m hd hx hy hm CF CD _ _ T0 _ p1 p2 C1
    · rw [hB] at C1
      rw [if_pos rfl]
      exact rop_13y rm hr hn xe fw fo dd x y m hd hx hy hm CF CD _ _ T0 _ p1 p2 C1
  · exact rop_14 rm hr hn xe fw fo dd x y m hd hx hy hm CF CD _ _ (hT (by omega))
  · show Calls _ _ _ _ (RDid (turnR ⟨pc, R, l, 0, ep, home⟩ M (if getR R dd = getR R x then goX pc 15 m else up pc)) gr C gw w)
    by_cases h : getR R dd = getR R x
    · rw [if_pos h]
      exact rop_15t rm hr hn xe fw fo dd x y m hd hx hy hm CF CD _ _ (hT (by omega)) (by simpa using h)
    · rw [if_neg h]
      exact rop_15f rm hr hn xe fw fo dd x y m hd hx hy hm CF CD _ _ (hT (by omega)) (by simpa using h)
  · show Calls _ _ _ _ (RDid (turnR ⟨pc, R, l, 0, ep, home⟩ M (if getR R dd = getR R x then up pc else goX pc 16 m)) gr C gw w)
    by_cases h : getR R dd = getR R x
    · rw [if_pos h]
      exact rop_16t rm hr hn xe fw fo dd x y m hd hx hy hm CF CD _ _ (hT (by omega)) (by simpa using h)
    · rw [if_neg h]
      exact rop_16f rm hr hn xe fw fo dd x y m hd hx hy hm CF CD _ _ (hT (by omega)) (by simpa using h)
  · show Calls _ _ _ _ (RDid (if 16 ≤ l.length then _ else _) gr C gw w)
    rw [hlen]
    by_cases h : 16 ≤ n
    · rw [if_pos h]
      exact rop_17n rm hr hn xe fw fo dd x y m hd hx hy hm CF CD _ _ (hT (by omega)) (by omega)
    · rw [if_neg h]
      exact rop_17y rm hr hn xe fw fo dd x y m hd hx hy hm CF CD _ _ (hT (by omega)) (by omega)
  · show Calls _ _ _ _ (RDid (if 0 < l.length then backR ⟨pc, R, l, 0, ep, home⟩ M else passR ⟨pc, R, l, 0, ep, home⟩ M xe 6) gr C gw w)
    rw [hlen]
    by_cases h : 0 < n
    · rw [if_pos h]
      obtain ⟨k, rfl⟩ : ∃ k, n = k + 1 := ⟨n - 1, by omega⟩
      have e : backR ⟨pc, R, l, 0, ep, home⟩ M = ⟨⟨l.getD k 0, R, l.take k, 0, ep, home⟩, M, false, false, 0, 0⟩ := by
        unfold backR
        simp only [hlen, Nat.add_sub_cancel]
      rw [e]
      exact rop_18y rm hr hn xe fw fo dd x y m hd hx hy hm CF CD _ _ T0 (by simp; omega)
    · rw [if_neg h]
      obtain rfl : n = 0 := by omega
      have e : passR ⟨pc, R, l, 0, ep, home⟩ M xe 6 = ⟨⟨home, R, l, 0, xe, home⟩, M, true, false, 0, 0⟩ := by
        unfold passR
        simp [hlen]
      rw [e]
      exact rop_18e rm hr hn xe fw fo dd x y m hd hx hy hm CF CD _ _ T0 home 0 xe true (hSF 6) (by simp)
  · exact rop_19 rm hr hn xe fw fo dd x y m hd hx hy hm CF CD _ _ T0
  · show Calls _ _ _ _ (RDid (passR ⟨pc, R, l, 0, ep, home⟩ M xe 6) gr C gw w)
    have C1 := hSF 6
    by_cases h : 0 < n
    · have e : passR ⟨pc, R, l, 0, ep, home⟩ M xe 6 = ⟨⟨pc, R, l, 6, ep, home⟩, M, false, false, 0, 0⟩ := by
        unfold passR stillR
        simp [hlen, h]
      rw [e]
      simp only [if_pos h, decide_eq_false (show ¬ n = 0 by omega)] at C1
      exact rop_20 rm hr hn xe fw fo dd x y m hd hx hy hm CF CD _ _ T0 pc 6 ep false C1
    · obtain rfl : n = 0 := by omega
      have e : passR ⟨pc, R, l, 0, ep, home⟩ M xe 6 = ⟨⟨home, R, l, 0, xe, home⟩, M, true, false, 0, 0⟩ := by
        unfold passR
        simp [hlen]
      rw [e]
      exact rop_20 rm hr hn xe fw fo dd x y m hd hx hy hm CF CD _ _ T0 home 0 xe true C1
  · obtain ⟨z0, z1⟩ := hm64 rfl
    show Calls _ _ _ _ (RDid (enterR ⟨pc, R, l, 0, ep, home⟩ M m xe) gr C gw w)
    unfold enterR
    by_cases hg : gate M (m / 8) = 0
    · rw [if_pos hg]
      have C1 := hSF 2
      by_cases h : 0 < n
      · have e : passR ⟨pc, R, l, 0, ep, home⟩ M xe 2 = ⟨⟨pc, R, l, 2, ep, home⟩, M, false, false, 0, 0⟩ := by
          unfold passR stillR
          simp [hlen, h]
        rw [e]
        simp only [if_pos h, decide_eq_false (show ¬ n = 0 by omega)] at C1
        exact rop_21s rm hr hn xe fw fo dd x y m hd hx hy hm CF CD _ _ T0 pc 2 ep false C1 _ rfl (by rw [hg]; rfl) ⟨z0, z1⟩
      · obtain rfl : n = 0 := by omega
        have e : passR ⟨pc, R, l, 0, ep, home⟩ M xe 2 = ⟨⟨home, R, l, 0, xe, home⟩, M, true, false, 0, 0⟩ := by
          unfold passR
          simp [hlen]
        rw [e]
        exact rop_21s rm hr hn xe fw fo dd x y m hd hx hy hm CF CD _ _ T0 home 0 xe true C1 _ rfl (by rw [hg]; rfl) ⟨z0, z1⟩
    · rw [if_neg hg]
      exact rop_21y rm hr hn xe fw fo dd x y m hd hx hy hm CF CD _ _ T0 _ rfl (by simpa using hg) ⟨z0, z1⟩
/-- a step of the reference's -/
theorem rstep_any {G : Nat → Prop} {w : World} {gr C gw d : Nat} {M : Mm} {a : Option Addr} {n c : Nat} {h : Ht} (rm : Rm w gr C gw d M) (mk : MOk M) (wk : WOk M) (hr : Reads G w (.slice a n c) (wcs h.sk)) (hn : n * 4 ≤ 140737488355328) (ok : HOk h) (xe : Int) :
    Calls Tryz.prog 9 #[hV h.pc h.r a n c h.why h.ep h.home, rV M.gt gr M.pg.length C gw M.ws.length d, .int .u64 xe] w (RDid (stepR h M xe) gr C gw w) := by
  by_cases hw : h.why = 0
  · have CF := fun u (hb : Below w.heap.size w u) => refFetch_any (rm.belowS hb) mk h.pc h.ep ok.pc
    cases hf : fetchB M h.pc h.ep
    · have e : stepR h M xe = stillR h M 2 := by unfold stepR; rw [if_pos hw, hf]; rfl
      rw [e]
      rw [hf] at CF
      obtain ⟨pc, R, l, why, ep, home⟩ := h
      obtain rfl : why = 0 := hw
      exact rstep_none rm hr hn xe _ _ CF
    · have hx : B32 (fetchW M h.pc h.ep) := fetchW_ok wk ok.pc.1 h.ep
      have CD := IF.refDecode_any _ hx
      rw [hf] at CF
      unfold IF.decV at CD
      cases hd : hasB (fetchW M h.pc h.ep)
      · have e : stepR h M xe = stillR h M 3 := by unfold stepR; rw [if_pos hw, hf, if_pos rfl, hd]; rfl
        rw [e]
        rw [hd] at CD
        obtain ⟨pc, R, l, why, ep, home⟩ := h
        obtain rfl : why = 0 := hw
        exact rstep_word rm hr hn xe _ _ CF CD
      · have e : stepR h M xe = doR h M (fetchO M h.pc h.ep) xe (pO (fetchW M h.pc h.ep)) (pD (fetchW M h.pc h.ep)) (pA (fetchW M h.pc h.ep)) (pB (fetchW M h.pc h.ep)) (pM (fetchW M h.pc h.ep)) := by unfold stepR; rw [if_pos hw, hf, if_pos rfl, hd, if_pos rfl]
        rw [e]
        rw [hd] at CD
        have io := (has_good hx hd).1
        obtain ⟨pc, R, l, why, ep, home⟩ := h
        obtain rfl : why = 0 := hw
        exact rop_all rm mk hr hn xe _ _ _ _ _ _ _ io ok CF CD
  · exact rstep_still rm hr hn xe hw
/-- two boxes, of what is to be made and of a hart -/
theorem lhb_facts (w : World) (cl ch : Array Value) : Below w.heap.size w ((w.alloc (.cells cl 25)).alloc (.cells ch 30)) ∧ Whole ((w.alloc (.cells cl 25)).alloc (.cells ch 30)) w.heap.size 25 cl ∧ Whole ((w.alloc (.cells cl 25)).alloc (.cells ch 30)) (w.heap.size + 1) 30 ch := by
  refine ⟨bl2 .., (Whole.new w _ _).alloc _, ?_⟩
  have := Whole.new (w.alloc (.cells cl 25)) 30 ch
  simpa using this
/-- what was made, and the box of the reference's memory -/
theorem duo_mk {w2 : World} {M : Mm} {p t g gwp gr c gw d : Nat} {B : Nat} (ok : MOk M) (hP : Pm w2 p t g gwp M) (hR : Rm w2 gr c gw d M) (h1 : gr ≠ g) (h2 : gw ≠ gwp) (b1 : B ≤ p) (b2 : B ≤ t) (b3 : B ≤ g) (b4 : B ≤ gwp) (b5 : B ≤ w2.heap.size) (b6 : B ≤ gr) (b7 : B ≤ gw) :
    Duo B p t g gwp w2.heap.size M M gr c gw d (w2.alloc (.cells (rCs M.gt gr M.pg.length c gw M.ws.length d) 36)) :=
  ⟨hP.belowS (below_new _ _), hR.belowS (below_new _ _), ok, h1, h2, Whole.new _ _ _, b1, b2, b3, b4, b5, b6, b7⟩
/-- the reference's results in their boxes -/
theorem h3_facts (w : World) (ca cm cn : Array Value) : Below w.heap.size w (((w.alloc (.cells ca 30)).alloc (.cells cm 36)).alloc (.cells cn 44)) ∧ Whole (((w.alloc (.cells ca 30)).alloc (.cells cm 36)).alloc (.cells cn 44)) w.heap.size 30 ca ∧ Whole (((w.alloc (.cells ca 30)).alloc (.cells cm 36)).alloc (.cells cn 44)) (w.heap.size + 1) 36 cm ∧ Whole (((w.alloc (.cells ca 30)).alloc (.cells cm 36)).alloc (.cells cn 44)) (w.heap.size + 1 + 1) 44 cn := by
  refine ⟨bl3 .., ((Whole.new w _ _).alloc _).alloc _, ?_, ?_⟩
  · have := (Whole.new (w.alloc (.cells ca 30)) 36 cm).alloc (.cells cn 44)
    simpa using this
  · have := Whole.new ((w.alloc (.cells ca 30)).alloc (.cells cm 36)) 44 cn
    simpa using this
theorem one_refl (pc : Int) (R : Nat → Int) (l : List Int) (why ep home : Int) : decide (One pc R l why ep home pc R l why ep home) = true := decide_eq_true ⟨rfl, rfl, rfl, rfl, rfl, rfl⟩
end Go.Proofs.YtihcellcdkhadaaGreat.HF
