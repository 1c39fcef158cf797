/- Contracts of single functions, and plain lemmas, on which the exact laws of this seat rest; each holds under the conditions that it states. -/
import Derived.Test.YthblhibkbcmbaaaDoorCVC
import Derived.Test.YthblhibkbcmbaaaDoorI1
import Derived.Test.YthblhibkbcmbaaaDoorPb
import Derived.Test.YthblhibkbcmbaaaDoorQc
import Derived.Test.YthblhibkbcmbaaaDoorD4
import Derived.Deep.RegionHeld3
import Derived.Deep.DeepCutAuto
namespace Go.Proofs.YthblhibkbcmbaaaDoor
set_option linter.unusedVariables false
set_option linter.unusedSimpArgs false
open Go.RowKit
attribute [local go_sem] Oper.semAt_some

/-! ### runs of pixels along a curve -/
def rnC (f : Nat → Bool) : Nat → Bool
  | 0 => false
  | k + 1 => f k
def incL (L : List Int) : List Int := L.set (L.length - 1) (L.getD (L.length - 1) 0 + 1)
def rnL (f : Nat → Bool) : Nat → List Int
  | 0 => [0]
  | k + 1 => incL (if f k = rnC f k then rnL f k else rnL f k ++ [0])
theorem incL_len (L : List Int) : (incL L).length = L.length := by simp [incL]
theorem rnL_len (f : Nat → Bool) : ∀ k, 1 ≤ (rnL f k).length ∧ (rnL f k).length ≤ k + 1
  | 0 => by simp [rnL]
  | k + 1 => by
    have ih := rnL_len f k
    unfold rnL
    rw [incL_len]
    split
    · omega
    · rw [List.length_append]
      simp
      omega
theorem getD_mem0 (L : List Int) (i : Nat) : L.getD i 0 = 0 ∨ L.getD i 0 ∈ L := by
  rw [List.getD_eq_getElem?_getD]
  cases h : L[i]? with
  | none => exact Or.inl rfl
  | some x => exact Or.inr (List.mem_of_getElem? h)
theorem rnL_bd (f : Nat → Bool) : ∀ k, ∀ x ∈ rnL f k, 0 ≤ x ∧ x ≤ (k : Int)
  | 0, x, hx => by
    simp [rnL] at hx
    subst hx
    simp
  | k + 1, x, hx => by
    have ih := rnL_bd f k
    unfold rnL at hx
    have h2 : ∀ L : List Int, (∀ y ∈ L, 0 ≤ y ∧ y ≤ (k : Int)) → ∀ z ∈ incL L, 0 ≤ z ∧ z ≤ ((k + 1 : Nat) : Int) := by
      intro L hL z hz
      unfold incL at hz
      rcases List.mem_or_eq_of_mem_set hz with h | h
      · have := hL z h
        omega
      · rcases getD_mem0 L (L.length - 1) with e | e
        · omega
        · have := hL _ e
          omega
    split at hx
    · exact h2 _ ih x hx
    · refine h2 _ ?_ x hx
      intro y hy
      rcases List.mem_append.1 hy with h | h
      · exact ih y h
      · simp at h
        subst h
        omega
theorem rnL_at (f : Nat → Bool) (k i : Nat) : 0 ≤ (rnL f k).getD i 0 ∧ (rnL f k).getD i 0 ≤ (k : Int) := by
  rcases getD_mem0 (rnL f k) i with e | e
  · omega
  · exact rnL_bd f k _ e
theorem rnL_same {f : Nat → Bool} {k : Nat} (h : f k = rnC f k) : rnL f (k + 1) = incL (rnL f k) := by
  show incL _ = _
  rw [if_pos h]
theorem rnL_new {f : Nat → Bool} {k : Nat} (h : ¬ f k = rnC f k) : rnL f (k + 1) = incL (rnL f k ++ [0]) := by
  show incL _ = _
  rw [if_neg h]

/-- a spot of a tour lies in the square -/
theorem cvL_in (c n : Nat) : ∀ k, k ≤ 2 ^ n * 2 ^ n → ∀ p ∈ cvL c n k, ∃ x y : Nat, x < 2 ^ n ∧ y < 2 ^ n ∧ p = ((x : Int), (y : Int))
  | 0, _, p, hp => by
    have := (List.mem_replicate.1 hp).2
    subst this
    exact ⟨0, 0, Nat.two_pow_pos n, Nat.two_pow_pos n, rfl⟩
  | k + 1, hk, p, hp => by
    have h1 : 1 ≤ 2 ^ n := Nat.one_le_two_pow
    rcases List.mem_or_eq_of_mem_set hp with h | h
    · exact cvL_in c n k (by omega) p h
    · subst h
      exact ⟨_, _, Nat.mod_lt _ h1, Nat.div_lt_of_lt_mul (by omega), rfl⟩
theorem cvF_in (c n i : Nat) : ∃ x y : Nat, x < 2 ^ n ∧ y < 2 ^ n ∧ (cvF c n).getD i (0, 0) = ((x : Int), (y : Int)) := by
  rw [List.getD_eq_getElem?_getD]
  cases h : (cvF c n)[i]? with
  | none => exact ⟨0, 0, Nat.two_pow_pos n, Nat.two_pow_pos n, rfl⟩
  | some p => exact cvL_in c n _ (Nat.le_refl _) p (List.mem_of_getElem? h)
/-- the pixels along a curve -/
def alF (c n : Nat) (F : Nat → Nat → Bool) (i : Nat) : Bool := F ((cvF c n).getD i (0, 0)).2.toNat ((cvF c n).getD i (0, 0)).1.toNat

theorem own_keepB {w w' : World} {base n s : Nat} {e : TypeId} {v : Value} {xs : List Value} (h : w.ownsRow base e s v n xs) (hk : ∀ k, v.ownBlock = some k → w'.heap[k]? = w.heap[k]?) : w'.ownsRow base e s v n xs := by
  obtain ⟨h1, h2⟩ := h
  refine ⟨h1, ?_⟩
  rcases h2 with h2 | ⟨g, cap, cur, hv, hg, hh, r⟩
  · exact Or.inl h2
  · exact Or.inr ⟨g, cap, cur, hv, hg, by rw [hk g (by subst hv; rfl)]; exact hh, r⟩
/-- the row of lengths, apart from the row of spots -/
structure RnAt (W0 wr : World) (B g N cap : Nat) (S : List (Int × Int)) (u : Value) (L : List Int) : Prop where
  row : OwnN wr B u L
  own : OwnS wr 0 (.slice (some ⟨g, 0, none⟩) N cap) S
  ne : ∀ k, u.ownBlock = some k → k ≠ g
  bel : Below B W0 wr
section
variable {W0 wr wr' : World} {B g N cap : Nat} {S : List (Int × Int)} {u u' : Value} {L L' : List Int}
theorem RnAt.below (h : RnAt W0 wr B g N cap S u L) (hs : B ≤ wr.heap.size) (hb : Below wr.heap.size wr wr') : RnAt W0 wr' B g N cap S u L :=
  ⟨OwnN.below h.row hb, own_below h.own hb, h.ne, h.bel.trans (hb.mono hs)⟩
theorem RnAt.app (h : RnAt W0 wr B g N cap S u L) (hs : B ≤ wr.heap.size) (o : Obj) (ho : OwnN wr' B u' L') (hg : (wr.alloc o).grownBy wr' u.ownBlock) (hq : u'.ownBlock = u.ownBlock ∨ u'.ownBlock = some (wr.alloc o).heap.size) : RnAt W0 wr' B g N cap S u' L' := by
  have hlt := (h.own.lt g rfl).2
  refine ⟨ho, World.ownsRow.kept (World.ownsRow.alloc h.own o) hg ?_, fun k hk => ?_, ?_⟩
  · right
    intro e
    exact h.ne g e.symm rfl
  · rcases hq with e | e
    · exact h.ne k (by rw [← e]; exact hk)
    · rw [e] at hk
      have e1 := Option.some.inj hk
      rw [World.size_alloc] at e1
      omega
  · exact (h.bel.alloc hs o).grown hg (by simp; omega) (fun k hk => (h.row.lt k hk).1)
theorem RnAt.put {r m rc : Nat} (h : RnAt W0 wr B g N cap S (.slice (some ⟨r, 0, none⟩) m rc) L) (j : Nat) (hj : j < L.length) (x : Int) : RnAt W0 (wr.setCell ⟨r, j, none⟩ (.int .i64 x)) B g N cap S (.slice (some ⟨r, 0, none⟩) m rc) (L.set j x) := by
  have hm : m = L.length := by
    rcases Joins.ownsRow_forms h.row with ⟨e, _⟩ | ⟨_, _, e⟩
    · cases e
    · injection e
  subst hm
  refine ⟨?_, own_keepB h.own fun k hk => heap_setCell_other wr ⟨r, j, none⟩ k _ (fun e => ?_), h.ne, h.bel.setCell (h.row.lt r rfl).1 _⟩
  · have := (World.ownsRow.stored h.row j (.int .i64 x)).1
    unfold OwnN
    rw [List.length_set]
    have e2 : numsV (L.set j x) = (numsV L).set j (.int .i64 x) := by simp [numsV, List.map_set]
    rw [e2]
    exact this
  · have e1 : g = k := by simpa [Value.ownBlock] using hk
    have e2 : k = r := e
    exact h.ne r rfl (e1.trans e2).symm
theorem RnAt.at {r m rc : Nat} (h : RnAt W0 wr B g N cap S (.slice (some ⟨r, 0, none⟩) m rc) L) (j : Nat) (hj : j < L.length) : wr.cell? ⟨r, j, none⟩ = some (.int .i64 (L.getD j 0)) := by
  have hm : m = L.length := by
    rcases Joins.ownsRow_forms h.row with ⟨e, _⟩ | ⟨_, _, e⟩
    · cases e
    · injection e
  subst hm
  have := World.ownsRow.cellAt h.row j (by omega)
  rw [this]
  simp [numsV, hj]
end

set_option maxHeartbeats 4000000 in
set_option maxRecDepth 100000 in
theorem runs_any (M : Array Value) (c n : Nat) (F : Nat → Nat → Bool) (w : World) (hc : c < 4) (hn : n ≤ 4) (hQ : QvP w) (hsz : M.size = 18)
    (HBk0 : ∀ (x y : Nat) W, x < 2 ^ n → y < 2 ^ n → Calls Tryd.prog 63 #[.agg M, .int .i64 x, .int .i64 y] W (SaysB (F y x) W)) :
    Calls Tryd.prog 39 #[.agg #[.int .i64 (c : Int), .int .i64 (n : Int)], .agg M] w (fun e w' => ∃ v, e = .returned v ∧ OwnN w' w.heap.size v (rnL (alF c n F) (2 ^ n * 2 ^ n)) ∧ Below w.heap.size w w') := by
  obtain ⟨i0, hi0, hz0, hz1, hz2⟩ := info_parts infoN64
  have HI : Hid ((Tryd.prog.info? 59).map (·.size) = some M.size) := by show _ = _; rw [hsz]; exact infoM
  obtain ⟨W0, hW0⟩ : ∃ W0, (((w.alloc (.cells #[.int .i64 (c : Int), .int .i64 (n : Int)] 66)).alloc (.cells M 59)).alloc (.cells #[.int .i64 0] 2)) = W0 := ⟨_, rfl⟩
  have b0 : Below w.heap.size w W0 := by rw [← hW0]; exact Joins.below_alloc3 w _ _ _
  have ht0 : W0.heap[w.heap.size]? = some (.cells #[.int .i64 (c : Int), .int .i64 (n : Int)] 66 (0, 0)) := by
    rw [← hW0, Below.heap_alloc _ _ _ (by first | (simp; done) | (simp; omega)), Below.heap_alloc _ _ _ (by simp)]; exact heap_alloc_last w _
  have hM0 : W0.heap[w.heap.size + 1]? = some (.cells M 59 (0, 0)) := by
    rw [← hW0, Below.heap_alloc _ _ _ (by simp)]
    exact heap_alloc2_new _ _ _
  have hL0 : W0.heap[w.heap.size + 1 + 1]? = some (.cells #[.int .i64 0] 2 (0, 0)) := by
    rw [← hW0]
    have := heap_alloc_last ((w.alloc (.cells #[.int .i64 (c : Int), .int .i64 (n : Int)] 66)).alloc (.cells M 59)) (.cells #[.int .i64 0] 2)
    simpa only [World.size_alloc] using this
  have hsW : W0.heap.size = w.heap.size + 1 + 1 + 1 := by rw [← hW0]; simp
  have c0 : W0.cell? ⟨w.heap.size, 0, none⟩ = some (.int .i64 (c : Int)) := by rw [Joins.cell_of_block ht0 0]; rfl
  have c1 : W0.cell? ⟨w.heap.size, 1, none⟩ = some (.int .i64 (n : Int)) := by rw [Joins.cell_of_block ht0 1]; rfl
  have HO0 : Hid (OwnN W0 (w.heap.size + 1 + 1) (.slice (some ⟨w.heap.size + 1 + 1, 0, none⟩) 1 1) [0]) := by
    show OwnN _ _ _ _
    unfold OwnN
    rw [← hW0]
    have := World.ownsRow_lit (base := w.heap.size + 1 + 1) (e := 2) (size := 1) ((w.alloc (.cells #[.int .i64 (c : Int), .int .i64 (n : Int)] 66)).alloc (.cells M 59)) #[.int .i64 0] 1 (by simp) (by unfold maxLen; omega) rfl
    simpa [numsV] using this
  have B0 := Lib.hid b0
  have HM0 := Lib.hid hM0
  have CS : Hid (∀ W, Below w.heap.size w W → Calls Tryd.prog 62 #[.agg #[.int .i64 (c : Int), .int .i64 (n : Int)]] W (TookSpots W (cvF c n))) := fun W hb => spots_made c n W hc hn (hQ.below hb)
  have HLf := Lib.hid (cvF_len c n)
  have h256 : 2 ^ n * 2 ^ n ≤ 256 := Nat.mul_le_mul (pow_le16 hn) (pow_le16 hn)
  have HBk : Hid (∀ i W, Calls Tryd.prog 63 #[.agg M, .int .i64 ((cvF c n).getD i (0, 0)).1, .int .i64 ((cvF c n).getD i (0, 0)).2] W (SaysB (alF c n F i) W)) := fun i W => by
    obtain ⟨x, y, hx, hy, e⟩ := cvF_in c n i
    have := HBk0 x y W hx hy
    unfold alF
    rw [e]
    exact this
  obtain ⟨f, hf⟩ : ∃ f, alF c n F = f := ⟨_, rfl⟩
  rw [hf] at HBk ⊢
  obtain ⟨S, hS⟩ : ∃ S, cvF c n = S := ⟨_, rfl⟩
  rw [hS] at HBk HLf CS
  unfold TookSpots at CS
  obtain ⟨N, hN⟩ : ∃ N, 2 ^ n * 2 ^ n = N := ⟨_, rfl⟩
  rw [hN] at HLf h256 ⊢
  rw [HLf.out] at CS
  have HSame : Hid (∀ k, f k = rnC f k → rnL f (k + 1) = incL (rnL f k)) := fun k h => rnL_same h
  have HNew : Hid (∀ k, ¬ f k = rnC f k → rnL f (k + 1) = incL (rnL f k ++ [0])) := fun k h => rnL_new h
  have HCs : Hid (∀ k, rnC f (k + 1) = f k) := fun _ => rfl
  have HLn := Lib.hid (rnL_len f)
  have HAt := Lib.hid (rnL_at f)
  have H0 : Hid (rnL f 0 = [0]) := rfl
  have HC0 : Hid (rnC f 0 = false) := rfl
  obtain ⟨ru, hru⟩ : ∃ r, rnL f = r := ⟨_, rfl⟩
  obtain ⟨co, hco⟩ : ∃ r, rnC f = r := ⟨_, rfl⟩
  rw [hru] at HSame HNew HLn HAt H0 ⊢
  rw [hco] at HSame HNew HCs HC0
  have HW := Lib.hid hW0
  have HQ9 := Lib.hid hsW
  clear hru hco hN hS hf HBk0 hsz hQ hc hn hW0 hM0 hL0 ht0 hsW b0
  go_enter Tryd.func39, Tryd.ntmps39
  go_upto_region 3 with fail
  rw [HW.out]
  go_wp2_with fail
  refine (CS.out _ B0.out).mono ?_
  rintro e w1 ⟨g, cap, rfl, hown, hb1⟩
  have hsB : w.heap.size + 1 + 1 ≤ W0.heap.size := by rw [HQ9.out]; omega
  have HB1 := Lib.hid (hb1.mono hsB)
  have hgl := hown.lt g rfl
  have HR0 : Hid (RnAt W0 w1 (w.heap.size + 1 + 1) g N cap S (.slice (some ⟨w.heap.size + 1 + 1, 0, none⟩) 1 1) (ru 0)) := by
    show RnAt _ _ _ _ _ _ _ _ _
    rw [H0.out]
    exact ⟨OwnN.below HO0.out hb1, Joins.ownsRow_le hown (by omega), fun k hk => by simp [Value.ownBlock] at hk; have := HQ9.out; omega, HB1.out⟩
  clear hb1 hown c0 c1 HO0 HB1 CS
  go_wp2_with fail
  go_loopw [5, 6, 13] (fun lv bv iv wr => ∃ (u : Value) (k : Nat), u = lv ∧ k ≤ N ∧ iv = .int .i64 (k : Int) ∧ bv = .bool (co k) ∧ Hid (RnAt W0 wr (w.heap.size + 1 + 1) g N cap S u (ru k))) (fun _ _ iv _ => N - (intOf iv).toNat)
  case atStart => exact ⟨_, 0, rfl, Nat.zero_le _, rfl, by rw [HC0.out], HR0⟩
  case round =>
    clear HR0
    obtain ⟨u, k, rfl, hk, rfl, rfl, HR⟩ := hrel
    by_cases hlt : k < N
    · have kk : (k : Int) < (N : Int) := by omega
      have kk0 : (0 : Int) ≤ (k : Int) := by omega
      have hsp := (OwnS.spots HR.out.own).2 k (by rw [HLf.out]; exact hlt)
      obtain ⟨q0, q1⟩ := hsp
      have C1 := Lib.hid (fun W => HBk.out k W)
      obtain ⟨px, hpx⟩ : ∃ z, (S.getD k (0, 0)).1 = z := ⟨_, rfl⟩
      obtain ⟨py, hpy⟩ : ∃ z, (S.getD k (0, 0)).2 = z := ⟨_, rfl⟩
      rw [hpx] at q0 C1
      rw [hpy] at q1 C1
      have hsr : w.heap.size + 1 + 1 ≤ wr.heap.size := Nat.le_trans hsB HR.out.bel.size
      have hbA := Joins.below_alloc1 wr (.cells #[.int .i64 px, .int .i64 py] 76)
      have hpA := heap_alloc_last wr (.cells #[.int .i64 px, .int .i64 py] 76)
      have HR5 := Lib.hid (HR.out.below hsr hbA)
      obtain ⟨W5, hW5⟩ : ∃ W5, wr.alloc (.cells #[.int .i64 px, .int .i64 py] 76) = W5 := ⟨_, rfl⟩
      rw [hW5] at HR5 hpA hbA
      have hs5 : w.heap.size + 1 + 1 ≤ W5.heap.size := Nat.le_trans hsr hbA.size
      have y0 : W5.cell? ⟨wr.heap.size, 0, none⟩ = some (.int .i64 px) := by rw [Joins.cell_of_block hpA 0]; rfl
      have y1 : W5.cell? ⟨wr.heap.size, 1, none⟩ = some (.int .i64 py) := by rw [Joins.cell_of_block hpA 1]; rfl
      have M5 := Lib.hid ((HR5.out.bel.block (w.heap.size + 1) (by omega)).trans HM0.out)
      have HW5 := Lib.hid hW5
      clear hpx hpy hbA hpA hW5 HR
      go_upto_region 6 with fail
      rw [HW5.out]
      clear q0 q1
      go_wp2_with (refine wpList_load_row rfl 59 _ rfl (w.heap.size + 1) rfl 59 M (0, 0) _ M5.out Tryd.underlying59 rfl HI.out ?_)
      refine (C1.out _).mono ?_
      rintro e w6 ⟨rfl, hb6⟩
      have HR6 := Lib.hid (HR5.out.below hs5 hb6)
      have hs6 : w.heap.size + 1 + 1 ≤ w6.heap.size := Nat.le_trans hs5 hb6.size
      have hl := HLn.out k
      have hcs := HCs.out k
      have ha := HAt.out k ((ru k).length - 1)
      have HSk := Lib.hid (HSame.out k)
      have HNk := Lib.hid (HNew.out k)
      obtain ⟨L, hL⟩ : ∃ L, ru k = L := ⟨_, rfl⟩
      rw [hL] at hl HR6 HSk HNk ha
      obtain ⟨L2, hL2⟩ : ∃ L, ru (k + 1) = L := ⟨_, rfl⟩
      rw [hL2] at HSk HNk
      have HL2 := Lib.hid hL2
      have HCk := Lib.hid hcs
      obtain ⟨fb, hfb⟩ : ∃ b, f k = b := ⟨_, rfl⟩
      obtain ⟨cb, hcb⟩ : ∃ b, co k = b := ⟨_, rfl⟩
      rw [hfb] at HSk HNk HCk
      rw [hcb] at HSk HNk
      rw [hfb, hcb]
      clear hb6 y0 y1 HR5 hL hL2 hfb hcb hcs
      obtain ⟨pl, hpl⟩ : ∃ p, L.length = p + 1 := ⟨L.length - 1, by omega⟩
      by_cases hsame : fb = cb
      · have HE := Lib.hid (HSk.out hsame)
        have k1w : IntKind.i64.wrap (pl : Int) = (pl : Int) := IntWalk.i64_in _ (by omega)
        obtain ⟨r, rc, rfl⟩ := Joins.ownsRow_form HR6.out.row (by omega)
        have hrow := HR6.out.at pl (by omega)
        have HP := Lib.hid (HR6.out.put pl (by omega) (L.getD pl 0 + 1))
        have hfz := World.ownsRow.frozenAt HR6.out.row pl
        rw [show L.length - 1 = pl from by omega] at ha
        have HE2 : Hid (L2 = L.set pl (L.getD pl 0 + 1)) := by show _ = _; rw [HE.out]; unfold incL; rw [hpl, Nat.add_sub_cancel]
        obtain ⟨x, hx⟩ : ∃ x, L.getD pl 0 = x := ⟨_, rfl⟩
        rw [hx] at hrow HP ha HE2
        have kx : IntKind.i64.wrap (x + 1) = x + 1 := IntWalk.i64_in _ (by omega)
        rw [hpl] at HP ⊢
        subst hsame
        clear HE HR6 hx HSk HNk
        go_wp2
        go_roundw
        case rel => exact ⟨_, k + 1, rfl, by omega, by go_num, by rw [HCk.out], by rw [HL2.out, HE2.out]; exact HP⟩
        case measure => simp [intOf]; omega
      · have HE := Lib.hid (HNk.out hsame)
        have HRow := Lib.hid (show w6.ownsRow (w.heap.size + 1 + 1) 2 1 u L.length (numsV L) from HR6.out.row)
        obtain ⟨r, rc, rfl⟩ := Joins.ownsRow_form HR6.out.row (by omega)
        have h2 : (fb = true ∧ cb = false) ∨ (fb = false ∧ cb = true) := by revert hsame; cases fb <;> cases cb <;> simp
        clear hsame HSk HNk
        rcases h2 with ⟨rfl, rfl⟩ | ⟨rfl, rfl⟩
        · rw [hpl] at HRow ⊢
          go_wp2_with (at_builtin; refine wpList_append_own_at _ rfl _ _ 26 rfl (w.heap.size + 1 + 1) 2 i0 (.int .i64 0) 1 8 Tryd.underlying26 hi0 hz0 hz1 hz2 rfl (by decide) _ _ _ rfl (World.ownsRow.alloc HRow.out _) ⟨w6.heap.size, 0, none⟩ 1 1 [.int .i64 0] rfl rfl (cell_one_new _ _ _) (by intro u hu; simp at hu; subst hu; rfl) (by unfold maxLen; omega) (by omega) (by simp; omega) ?_)
          intro v' w7 hown' hgr _ hblk
          have HX : Hid (OwnN w7 (w.heap.size + 1 + 1) v' (L ++ [0])) := by
            show OwnN _ _ _ _
            unfold OwnN
            rw [List.length_append, hpl, show numsV (L ++ [(0 : Int)]) = numsV L ++ [.int .i64 0] from by simp [numsV]]
            exact hown'
          have HR7 := Lib.hid (HR6.out.app hs6 (.cells #[.int .i64 0] 2) HX.out (by rw [hpl]; exact hgr) (by rw [World.size_alloc, hpl]; exact hblk))
          have k1w : IntKind.i64.wrap ((pl + 1 : Nat) : Int) = ((pl + 1 : Nat) : Int) := IntWalk.i64_in _ (by omega)
          have hll : (L ++ [(0 : Int)]).length = pl + 1 + 1 := by simp [hpl]
          obtain ⟨r7, rc7, rfl⟩ := Joins.ownsRow_form hown' (by omega)
          have hrow := HR7.out.at (pl + 1) (by omega)
          have hlast : (L ++ [(0 : Int)]).getD (pl + 1) 0 = 0 := by simp [hpl]
          rw [hlast] at hrow
          have HP := Lib.hid (HR7.out.put (pl + 1) (by omega) 1)
          have hfz := World.ownsRow.frozenAt hown' (pl + 1)
          have HE2 : Hid (L2 = (L ++ [(0 : Int)]).set (pl + 1) 1) := by show _ = _; rw [HE.out]; unfold incL; rw [hll, Nat.add_sub_cancel, hlast]; rfl
          clear hown' hgr HE HR6 HR7 HX HRow hlast
          go_wp2
          go_roundw
          case rel => exact ⟨_, k + 1, rfl, by omega, by go_num, by rw [HCk.out], by rw [HL2.out, HE2.out]; exact HP⟩
          case measure => simp [intOf]; omega
        · rw [hpl] at HRow ⊢
          go_wp2_with (at_builtin; refine wpList_append_own_at _ rfl _ _ 26 rfl (w.heap.size + 1 + 1) 2 i0 (.int .i64 0) 1 8 Tryd.underlying26 hi0 hz0 hz1 hz2 rfl (by decide) _ _ _ rfl (World.ownsRow.alloc HRow.out _) ⟨w6.heap.size, 0, none⟩ 1 1 [.int .i64 0] rfl rfl (cell_one_new _ _ _) (by intro u hu; simp at hu; subst hu; rfl) (by unfold maxLen; omega) (by omega) (by simp; omega) ?_)
          intro v' w7 hown' hgr _ hblk
          have HX : Hid (OwnN w7 (w.heap.size + 1 + 1) v' (L ++ [0])) := by
            show OwnN _ _ _ _
            unfold OwnN
            rw [List.length_append, hpl, show numsV (L ++ [(0 : Int)]) = numsV L ++ [.int .i64 0] from by simp [numsV]]
            exact hown'
          have HR7 := Lib.hid (HR6.out.app hs6 (.cells #[.int .i64 0] 2) HX.out (by rw [hpl]; exact hgr) (by rw [World.size_alloc, hpl]; exact hblk))
          have k1w : IntKind.i64.wrap ((pl + 1 : Nat) : Int) = ((pl + 1 : Nat) : Int) := IntWalk.i64_in _ (by omega)
          have hll : (L ++ [(0 : Int)]).length = pl + 1 + 1 := by simp [hpl]
          obtain ⟨r7, rc7, rfl⟩ := Joins.ownsRow_form hown' (by omega)
          have hrow := HR7.out.at (pl + 1) (by omega)
          have hlast : (L ++ [(0 : Int)]).getD (pl + 1) 0 = 0 := by simp [hpl]
          rw [hlast] at hrow
          have HP := Lib.hid (HR7.out.put (pl + 1) (by omega) 1)
          have hfz := World.ownsRow.frozenAt hown' (pl + 1)
          have HE2 : Hid (L2 = (L ++ [(0 : Int)]).set (pl + 1) 1) := by show _ = _; rw [HE.out]; unfold incL; rw [hll, Nat.add_sub_cancel, hlast]; rfl
          clear hown' hgr HE HR6 HR7 HX HRow hlast
          go_wp2
          go_roundw
          case rel => exact ⟨_, k + 1, rfl, by omega, by go_num, by rw [HCk.out], by rw [HL2.out, HE2.out]; exact HP⟩
          case measure => simp [intOf]; omega
    · obtain rfl : k = N := by omega
      have HB9 := Lib.hid (B0.out.trans (HR.out.bel.mono (by omega)))
      go_wp2_with fail
      go_ret
      exact ⟨_, rfl, OwnN.mono HR.out.row (by omega), HB9.out⟩
end Go.Proofs.YthblhibkbcmbaaaDoor
