/- Contracts of single functions, and plain lemmas, on which the exact laws of this seat rest; each holds under the conditions that it states. -/
import Derived.Test.YthblhibkbcmbaaaDoorCVC
import Derived.Test.YthblhibkbcmbaaaDoorV5
import Derived.Test.YthblhibkbcmbaaaDoorQb
import Derived.Test.YthblhibkbcmbaaaDoorQc
import Derived.Test.YthblhibkbcmbaaaDoorD4
import Derived.Deep.RegionHeld3
import Derived.Deep.DeepCutAuto
import Derived.Test.YthblhibkbcmbaaaDoorCV5
namespace Go.Proofs.YthblhibkbcmbaaaDoor
set_option linter.unusedVariables false
set_option linter.unusedSimpArgs false
open Go.RowKit
attribute [local go_sem] Oper.semAt_some

/-! ### runs of pixels along a curve -/
def rnC (f : Nat → Bool) : Nat → Bool
  | 0 => false
  | k + 1 => f k
def incL (L : List Int) : List Int := L.set (L.length - 1) (L.getD (L.length - 1) 0 + 1)
def rnL (f : Nat → Bool) : Nat → List Int
  | 0 => [0]
  | k + 1 => incL (if f k = rnC f k then rnL f k else rnL f k ++ [0])
theorem incL_len (L : List Int) : (incL L).length = L.length := by simp [incL]
theorem rnL_len (f : Nat → Bool) : ∀ k, 1 ≤ (rnL f k).length ∧ (rnL f k).length ≤ k + 1
  | 0 => by simp [rnL]
  | k + 1 => by
    have ih := rnL_len f k
    unfold rnL
    rw [incL_len]
    split
    · omega
    · rw [List.length_append]
      simp
      omega
theorem getD_mem0 (L : List Int) (i : Nat) : L.getD i 0 = 0 ∨ L.getD i 0 ∈ L := by
  rw [List.getD_eq_getElem?_getD]
  cases h : L[i]? with
  | none => exact Or.inl rfl
  | some x => exact Or.inr (List.mem_of_getElem? h)
theorem rnL_bd (f : Nat → Bool) : ∀ k, ∀ x ∈ rnL f k, 0 ≤ x ∧ x ≤ (k : Int)
  | 0, x, hx => by
    simp [rnL] at hx
    subst hx
    simp
  | k + 1, x, hx => by
    have ih := rnL_bd f k
    unfold rnL at hx
    have h2 : ∀ L : List Int, (∀ y ∈ L, 0 ≤ y ∧ y ≤ (k : Int)) → ∀ z ∈ incL L, 0 ≤ z ∧ z ≤ ((k + 1 : Nat) : Int) := by
      intro L hL z hz
      unfold incL at hz
      rcases List.mem_or_eq_of_mem_set hz with h | h
      · have := hL z h
        omega
      · rcases getD_mem0 L (L.length - 1) with e | e
        · omega
        · have := hL _ e
          omega
    split at hx
    · exact h2 _ ih x hx
    · refine h2 _ ?_ x hx
      intro y hy
      rcases List.mem_append.1 hy with h | h
      · exact ih y h
      · simp at h
        subst h
        omega
theorem rnL_at (f : Nat → Bool) (k i : Nat) : 0 ≤ (rnL f k).getD i 0 ∧ (rnL f k).getD i 0 ≤ (k : Int) := by
  rcases getD_mem0 (rnL f k) i with e | e
  · omega
  · exact rnL_bd f k _ e
theorem rnL_same {f : Nat → Bool} {k : Nat} (h : f k = rnC f k) : rnL f (k + 1) = incL (rnL f k) := by
  show incL _ = _
  rw [if_pos h]
theorem rnL_new {f : Nat → Bool} {k : Nat} (h : ¬ f k = rnC f k) : rnL f (k + 1) = incL (rnL f k ++ [0]) := by
  show incL _ = _
  rw [if_neg h]

/-- a spot of a tour lies in the square -/
theorem cvL_in (c n : Nat) : ∀ k, k ≤ 2 ^ n * 2 ^ n → ∀ p ∈ cvL c n k, ∃ x y : Nat, x < 2 ^ n ∧ y < 2 ^ n ∧ p = ((x : Int), (y : Int))
  | 0, _, p, hp => by
    have := (List.mem_replicate.1 hp).2
    subst this
    exact ⟨0, 0, Nat.two_pow_pos n, Nat.two_pow_pos n, rfl⟩
  | k + 1, hk, p, hp => by
    have h1 : 1 ≤ 2 ^ n := Nat.one_le_two_pow
    rcases List.mem_or_eq_of_mem_set hp with h | h
    · exact cvL_in c n k (by omega) p h
    · subst h
      exact ⟨_, _, Nat.mod_lt _ h1, Nat.div_lt_of_lt_mul (by omega), rfl⟩
theorem cvF_in (c n i : Nat) : ∃ x y : Nat, x < 2 ^ n ∧ y < 2 ^ n ∧ (cvF c n).getD i (0, 0) = ((x : Int), (y : Int)) := by
  rw [List.getD_eq_getElem?_getD]
  cases h : (cvF c n)[i]? with
  | none => exact ⟨0, 0, Nat.two_pow_pos n, Nat.two_pow_pos n, rfl⟩
  | some p => exact cvL_in c n _ (Nat.le_refl _) p (List.mem_of_getElem? h)
/-- the pixels along a curve -/
def alF (c n : Nat) (F : Nat → Nat → Bool) (i : Nat) : Bool := F ((cvF c n).getD i (0, 0)).2.toNat ((cvF c n).getD i (0, 0)).1.toNat

theorem own_keepB {w w' : World} {base n s : Nat} {e : TypeId} {v : Value} {xs : List Value} (h : w.ownsRow base e s v n xs) (hk : ∀ k, v.ownBlock = some k → w'.heap[k]? = w.heap[k]?) : w'.ownsRow base e s v n xs := by
  obtain ⟨h1, h2⟩ := h
  refine ⟨h1, ?_⟩
  rcases h2 with h2 | ⟨g, cap, cur, hv, hg, hh, r⟩
  · exact Or.inl h2
  · exact Or.inr ⟨g, cap, cur, hv, hg, by rw [hk g (by subst hv; rfl)]; exact hh, r⟩
/-- the row of lengths, apart from the row of spots -/
structure RnAt (W0 wr : World) (B g N cap : Nat) (S : List (Int × Int)) (u : Value) (L : List Int) : Prop where
  row : OwnN wr B u L
  own : OwnS wr 0 (.slice (some ⟨g, 0, none⟩) N cap) S
  ne : ∀ k, u.ownBlock = some k → k ≠ g
  bel : Below B W0 wr
section
variable {W0 wr wr' : World} {B g N cap : Nat} {S : List (Int × Int)} {u u' : Value} {L L' : List Int}
theorem RnAt.below (h : RnAt W0 wr B g N cap S u L) (hs : B ≤ wr.heap.size) (hb : Below wr.heap.size wr wr') : RnAt W0 wr' B g N cap S u L :=
  ⟨OwnN.below h.row hb, own_below h.own hb, h.ne, h.bel.trans (hb.mono hs)⟩
theorem RnAt.app (h : RnAt W0 wr B g N cap S u L) (hs : B ≤ wr.heap.size) (o : Obj) (ho : OwnN wr' B u' L') (hg : (wr.alloc o).grownBy wr' u.ownBlock) (hq : u'.ownBlock = u.ownBlock ∨ u'.ownBlock = some (wr.alloc o).heap.size) : RnAt W0 wr' B g N cap S u' L' := by
  have hlt := (h.own.lt g rfl).2
  refine ⟨ho, World.ownsRow.kept (World.ownsRow.alloc h.own o) hg ?_, fun k hk => ?_, ?_⟩
  · right
    intro e
    exact h.ne g e.symm rfl
  · rcases hq with e | e
    · exact h.ne k (by rw [← e]; exact hk)
    · rw [e] at hk
      have e1 := Option.some.inj hk
      rw [World.size_alloc] at e1
      omega
  · exact (h.bel.alloc hs o).grown hg (by simp; omega) (fun k hk => (h.row.lt k hk).1)
theorem RnAt.put {r m rc : Nat} (h : RnAt W0 wr B g N cap S (.slice (some ⟨r, 0, none⟩) m rc) L) (j : Nat) (hj : j < L.length) (x : Int) : RnAt W0 (wr.setCell ⟨r, j, none⟩ (.int .i64 x)) B g N cap S (.slice (some ⟨r, 0, none⟩) m rc) (L.set j x) := by
  have hm : m = L.length := by
    rcases Joins.ownsRow_forms h.row with ⟨e, _⟩ | ⟨_, _, e⟩
    · cases e
    · injection e
  subst hm
  refine ⟨?_, own_keepB h.own fun k hk => heap_setCell_other wr ⟨r, j, none⟩ k _ (fun e => ?_), h.ne, h.bel.setCell (h.row.lt r rfl).1 _⟩
  · have := (World.ownsRow.stored h.row j (.int .i64 x)).1
    unfold OwnN
    rw [List.length_set]
    have e2 : numsV (L.set j x) = (numsV L).set j (.int .i64 x) := by simp [numsV, List.map_set]
    rw [e2]
    exact this
  · have e1 : g = k := by simpa [Value.ownBlock] using hk
    have e2 : k = r := e
    exact h.ne r rfl (e1.trans e2).symm
theorem RnAt.at {r m rc : Nat} (h : RnAt W0 wr B g N cap S (.slice (some ⟨r, 0, none⟩) m rc) L) (j : Nat) (hj : j < L.length) : wr.cell? ⟨r, j, none⟩ = some (.int .i64 (L.getD j 0)) := by
  have hm : m = L.length := by
    rcases Joins.ownsRow_forms h.row with ⟨e, _⟩ | ⟨_, _, e⟩
    · cases e
    · injection e
  subst hm
  have := World.ownsRow.cellAt h.row j (by omega)
  rw [this]
  simp [numsV, hj]
end

set_option maxHeartbeats 4000000 in
set_option maxRecDepth 100000 in
theorem runs_any (M : Array Value) (c n : Nat) (F : Nat → Nat → Bool) (w : World) (hc : c < 4) (hn : n ≤ 4) (hQ : QvP w) (hsz : M.size = 18)
    (HBk0 : ∀ (x y : Nat) W, x < 2 ^ n → y < 2 ^ n → Calls Tryd.prog 63 #[.agg M, .int .i64 x, .int .i64 y] W (SaysB (F y x) W)) :
    Calls Tryd.prog 39 #[.agg #[.int .i64 (c : Int), .int .i64 (n : Int)], .agg M] w (fun e w' => ∃ v, e = .returned v ∧ OwnN w' w.heap.size v (rnL (alF c n F) (2 ^ n * 2 ^ n)) ∧ Below w.heap.size w w') := by
  obtain ⟨i0, hi0, hz0, hz1, hz2⟩ := info_parts infoN64
  have HI : Hid ((Tryd.prog.info? 59).map (·.size) = some M.size) := by show _ = _; rw [hsz]; exact infoM
  obtain ⟨W0, hW0⟩ : ∃ W0, (((w.alloc (.cells #[.int .i64 (c : Int), .int .i64 (n : Int)] 66)).alloc (.cells M 59)).alloc (.cells #[.int .i64 0] 2)) = W0 := ⟨_, rfl⟩
  have b0 : Below w.heap.size w W0 := by rw [← hW0]; exact Joins.below_alloc3 w _ _ _
  have ht0 : W0.heap[w.heap.size]? = some (.cells #[.int .i64 (c : Int), .int .i64 (n : Int)] 66 (0, 0)) := by
    rw [← hW0, Below.heap_alloc _ _ _ (by first | (simp; done) | (simp; omega)), Below.heap_alloc _ _ _ (by simp)]; exact heap_alloc_last w _
  have hM0 : W0.heap[w.heap.size + 1]? = some (.cells M 59 (0, 0)) := by
    rw [← hW0, Below.heap_alloc _ _ _ (by simp)]
    exact heap_alloc2_new _ _ _
  have hL0 : W0.heap[w.heap.size + 1 + 1]? = some (.cells #[.int .i64 0] 2 (0, 0)) := by
    rw [← hW0]
    have := heap_alloc_last ((w.alloc (.cells #[.int .i64 (c : Int), .int .i64 (n : Int)] 66)).alloc (.cells M 59)) (.cells #[.int .i64 0] 2)
    simpa only [World.size_alloc] using this
  have hsW : W0.heap.size = w.heap.size + 1 + 1 + 1 := by rw [← hW0]; simp
  have c0 : W0.cell? ⟨w.heap.size, 0, none⟩ = some (.int .i64 (c : Int)) := by rw [Joins.cell_of_block ht0 0]; rfl
  have c1 : W0.cell? ⟨w.heap.size, 1, none⟩ = some (.int .i64 (n : Int)) := by rw [Joins.cell_of_block ht0 1]; rfl
  have HO0 : Hid (OwnN W0 (w.heap.size + 1 + 1) (.slice (some ⟨w.heap.size + 1 + 1, 0, none⟩) 1 1) [0]) := by
    show OwnN _ _ _ _
    unfold OwnN
    rw [← hW0]
    have := World.ownsRow_lit (base := w.heap.size + 1 + 1) (e := 2) (size := 1) ((w.alloc (.cells #[.int .i64 (c : Int), .int .i64 (n : Int)] 66)).alloc (.cells M 59)) #[.int .i64 0] 1 (by simp) (by unfold maxLen; omega) rfl
    simpa [numsV] using this
  have B0 := Lib.hid b0
  have HM0 := Lib.hid hM0
  have CS : Hid (∀ W, Below w.heap.size w W → Calls Tryd.prog 62 #[.agg #[.int .i64 (c : Int), .int .i64 (n : Int)]] W (TookSpots W (cvF c n))) := fun W hb => spots_made c n W hc hn (hQ.below hb)
  have HLf := Lib.hid (cvF_len c n)
  have h256 : 2 ^ n * 2 ^ n ≤ 256 := Nat.mul_le_mul (pow_le16 hn) (pow_le16 hn)
  have HBk : Hid (∀ i W, Calls Tryd.prog 63 #[.agg M, .int .i64 ((cvF c n).getD i (0, 0)).1, .int .i64 ((cvF c n).getD i (0, 0)).2] W (SaysB (alF c n F i) W)) := fun i W => by
    obtain ⟨x, y, hx, hy, e⟩ := cvF_in c n i
    have := HBk0 x y W hx hy
    unfold alF
    rw [e]
    exact this
  obtain ⟨f, hf⟩ : ∃ f, alF c n F = f := ⟨_, rfl⟩
  rw [hf] at HBk ⊢
  obtain ⟨S, hS⟩ : ∃ S, cvF c n = S := ⟨_, rfl⟩
  rw [hS] at HBk HLf CS
  unfold TookSpots at CS
  obtain ⟨N, hN⟩ : ∃ N, 2 ^ n * 2 ^ n = N := ⟨_, rfl⟩
  rw [hN] at HLf h256 ⊢
  rw [HLf.out] at CS
  have HSame : Hid (∀ k, f k = rnC f k → rnL f (k + 1) = incL (rnL f k)) := fun k h => rnL_same h
  have HNew : Hid (∀ k, ¬ f k = rnC f k → rnL f (k + 1) = incL (rnL f k ++ [0])) := fun k h => rnL_new h
  have HCs : Hid (∀ k, rnC f (k + 1) = f k) := fun _ => rfl
  have HLn := Lib.hid (rnL_len f)
  have HAt := Lib.hid (rnL_at f)
  have H0 : Hid (rnL f 0 = [0]) := rfl
  have HC0 : Hid (rnC f 0 = false) := rfl
  obtain ⟨ru, hru⟩ : ∃ r, rnL f = r := ⟨_, rfl⟩
  obtain ⟨co, hco⟩ : ∃ r, rnC f = r := ⟨_, rfl⟩
  rw [hru] at HSame HNew HLn HAt H0 ⊢
  rw [hco] at HSame HNew HCs HC0
  have HW := Lib.hid hW0
  have HQ9 := Lib.hid hsW
  clear hru hco hN hS hf HBk0 hsz hQ hc hn hW0 hM0 hL0 ht0 hsW b0
  go_enter Tryd.func39, Tryd.ntmps39
  go_upto_region 3 with fail
  rw [HW.out]
  go_wp2_with fail
  refine (CS.out _ B0.out).mono ?_
  rintro e w1 ⟨g, cap, rfl, hown, hb1⟩
  have hsB : w.heap.size + 1 + 1 ≤ W0.heap.size := by rw [HQ9.out]; omega
  have HB1 := Lib.hid (hb1.mono hsB)
  have hgl := hown.lt g rfl
  have HR0 : Hid (RnAt W0 w1 (w.heap.size + 1 + 1) g N cap S (.slice (some ⟨w.heap.size + 1 + 1, 0, none⟩) 1 1) (ru 0)) := by
    show RnAt _ _ _ _ _ _ _ _ _
    rw [H0.out]
    exact ⟨OwnN.below HO0.out hb1, Joins.ownsRow_le hown (by omega), fun k hk => by simp [Value.ownBlock] at hk; have := HQ9.out; omega, HB1.out⟩
  clear hb1 hown c0 c1 HO0 HB1 CS
  go_wp2_with fail
  go_loopw [5, 6, 13] (fun lv bv iv wr => ∃ (u : Value) (k : Nat), u = lv ∧ k ≤ N ∧ iv = .int .i64 (k : Int) ∧ bv = .bool (co k) ∧ Hid (RnAt W0 wr (w.heap.size + 1 + 1) g N cap S u (ru k))) (fun _ _ iv _ => N - (intOf iv).toNat)
  case atStart => exact ⟨_, 0, rfl, Nat.zero_le _, rfl, by rw [HC0.out], HR0⟩
  case round =>
    clear HR0
    obtain ⟨u, k, rfl, hk, rfl, rfl, HR⟩ := hrel
    by_cases hlt : k < N
    · have kk : (k : Int) < (N : Int) := by omega
      have kk0 : (0 : Int) ≤ (k : Int) := by omega
      have hsp := (OwnS.spots HR.out.own).2 k (by rw [HLf.out]; exact hlt)
      obtain ⟨q0, q1⟩ := hsp
      have C1 := Lib.hid (fun W => HBk.out k W)
      obtain ⟨px, hpx⟩ : ∃ z, (S.getD k (0, 0)).1 = z := ⟨_, rfl⟩
      obtain ⟨py, hpy⟩ : ∃ z, (S.getD k (0, 0)).2 = z := ⟨_, rfl⟩
      rw [hpx] at q0 C1
      rw [hpy] at q1 C1
      have hsr : w.heap.size + 1 + 1 ≤ wr.heap.size := Nat.le_trans hsB HR.out.bel.size
      have hbA := Joins.below_alloc1 wr (.cells #[.int .i64 px, .int .i64 py] 76)
      have hpA := heap_alloc_last wr (.cells #[.int .i64 px, .int .i64 py] 76)
      have HR5 := Lib.hid (HR.out.below hsr hbA)
      obtain ⟨W5, hW5⟩ : ∃ W5, wr.alloc (.cells #[.int .i64 px, .int .i64 py] 76) = W5 := ⟨_, rfl⟩
      rw [hW5] at HR5 hpA hbA
      have hs5 : w.heap.size + 1 + 1 ≤ W5.heap.size := Nat.le_trans hsr hbA.size
      have y0 : W5.cell? ⟨wr.heap.size, 0, none⟩ = some (.int .i64 px) := by rw [Joins.cell_of_block hpA 0]; rfl
      have y1 : W5.cell? ⟨wr.heap.size, 1, none⟩ = some (.int .i64 py) := by rw [Joins.cell_of_block hpA 1]; rfl
      have M5 := Lib.hid ((HR5.out.bel.block (w.heap.size + 1) (by omega)).trans HM0.out)
      have HW5 := Lib.hid hW5
      clear hpx hpy hbA hpA hW5 HR
      go_upto_region 6 with fail
      rw [HW5.out]
      clear q0 q1
      go_wp2_with (refine wpList_load_row rfl 59 _ rfl (w.heap.size + 1) rfl 59 M (0, 0) _ M5.out Tryd.underlying59 rfl HI.out ?_)
      refine (C1.out _).mono ?_
      rintro e w6 ⟨rfl, hb6⟩
      have HR6 := Lib.hid (HR5.out.below hs5 hb6)
      have hs6 : w.heap.size + 1 + 1 ≤ w6.heap.size := Nat.le_trans hs5 hb6.size
      have hl := HLn.out k
      have hcs := HCs.out k
      have ha := HAt.out k ((ru k).length - 1)
      have HSk := Lib.hid (HSame.out k)
      have HNk := Lib.hid (HNew.out k)
      obtain ⟨L, hL⟩ : ∃ L, ru k = L := ⟨_, rfl⟩
      rw [hL] at hl HR6 HSk HNk ha
      obtain ⟨L2, hL2⟩ : ∃ L, ru (k + 1) = L := ⟨_, rfl⟩
      rw [hL2] at HSk HNk
      have HL2 := Lib.hid hL2
      have HCk := Lib.hid hcs
      obtain ⟨fb, hfb⟩ : ∃ b, f k = b := ⟨_, rfl⟩
      obtain ⟨cb, hcb⟩ : ∃ b, co k = b := ⟨_, rfl⟩
      rw [hfb] at HSk HNk HCk
      rw [hcb] at HSk HNk
      rw [hfb, hcb]
      clear hb6 y0 y1 HR5 hL hL2 hfb hcb hcs
      obtain ⟨pl, hpl⟩ : ∃ p, L.length = p + 1 := ⟨L.length - 1, by omega⟩
      by_cases hsame : fb = cb
      · have HE := Lib.hid (HSk.out hsame)
        have k1w : IntKind.i64.wrap (pl : Int) = (pl : Int) := IntWalk.i64_in _ (by omega)
        obtain ⟨r, rc, rfl⟩ := Joins.ownsRow_form HR6.out.row (by omega)
        have hrow := HR6.out.at pl (by omega)
        have HP := Lib.hid (HR6.out.put pl (by omega) (L.getD pl 0 + 1))
        have hfz := World.ownsRow.frozenAt HR6.out.row pl
        rw [show L.length - 1 = pl from by omega] at ha
        have HE2 : Hid (L2 = L.set pl (L.getD pl 0 + 1)) := by show _ = _; rw [HE.out]; unfold incL; rw [hpl, Nat.add_sub_cancel]
        obtain ⟨x, hx⟩ : ∃ x, L.getD pl 0 = x := ⟨_, rfl⟩
        rw [hx] at hrow HP ha HE2
        have kx : IntKind.i64.wrap (x + 1) = x + 1 := IntWalk.i64_in _ (by omega)
        rw [hpl] at HP ⊢
        subst hsame
        clear HE HR6 hx HSk HNk
        go_wp2
        go_roundw
        case rel => exact ⟨_, k + 1, rfl, by omega, by go_num, by rw [HCk.out], by rw [HL2.out, HE2.out]; exact HP⟩
        case measure => simp [intOf]; omega
      · have HE := Lib.hid (HNk.out hsame)
        have HRow := Lib.hid (show w6.ownsRow (w.heap.size + 1 + 1) 2 1 u L.length (numsV L) from HR6.out.row)
        obtain ⟨r, rc, rfl⟩ := Joins.ownsRow_form HR6.out.row (by omega)
        have h2 : (fb = true ∧ cb = false) ∨ (fb = false ∧ cb = true) := by revert hsame; cases fb <;> cases cb <;> simp
        clear hsame HSk HNk
        rcases h2 with ⟨rfl, rfl⟩ | ⟨rfl, rfl⟩
        · rw [hpl] at HRow ⊢
          go_wp2_with (at_builtin; refine wpList_append_own_at _ rfl _ _ 26 rfl (w.heap.size + 1 + 1) 2 i0 (.int .i64 0) 1 8 Tryd.underlying26 hi0 hz0 hz1 hz2 rfl (by decide) _ _ _ rfl (World.ownsRow.alloc HRow.out _) ⟨w6.heap.size, 0, none⟩ 1 1 [.int .i64 0] rfl rfl (cell_one_new _ _ _) (by intro u hu; simp at hu; subst hu; rfl) (by unfold maxLen; omega) (by omega) (by simp; omega) ?_)
          intro v' w7 hown' hgr _ hblk
          have HX : Hid (OwnN w7 (w.heap.size + 1 + 1) v' (L ++ [0])) := by
            show OwnN _ _ _ _
            unfold OwnN
            rw [List.length_append, hpl, show numsV (L ++ [(0 : Int)]) = numsV L ++ [.int .i64 0] from by simp [numsV]]
            exact hown'
          have HR7 := Lib.hid (HR6.out.app hs6 (.cells #[.int .i64 0] 2) HX.out (by rw [hpl]; exact hgr) (by rw [World.size_alloc, hpl]; exact hblk))
          have k1w : IntKind.i64.wrap ((pl + 1 : Nat) : Int) = ((pl + 1 : Nat) : Int) := IntWalk.i64_in _ (by omega)
          have hll : (L ++ [(0 : Int)]).length = pl + 1 + 1 := by simp [hpl]
          obtain ⟨r7, rc7, rfl⟩ := Joins.ownsRow_form hown' (by omega)
          have hrow := HR7.out.at (pl + 1) (by omega)
          have hlast : (L ++ [(0 : Int)]).getD (pl + 1) 0 = 0 := by simp [hpl]
          rw [hlast] at hrow
          have HP := Lib.hid (HR7.out.put (pl + 1) (by omega) 1)
          have hfz := World.ownsRow.frozenAt hown' (pl + 1)
          have HE2 : Hid (L2 = (L ++ [(0 : Int)]).set (pl + 1) 1) := by show _ = _; rw [HE.out]; unfold incL; rw [hll, Nat.add_sub_cancel, hlast]; rfl
          clear hown' hgr HE HR6 HR7 HX HRow hlast
          go_wp2
          go_roundw
          case rel => exact ⟨_, k + 1, rfl, by omega, by go_num, by rw [HCk.out], by rw [HL2.out, HE2.out]; exact HP⟩
          case measure => simp [intOf]; omega
        · rw [hpl] at HRow ⊢
          go_wp2_with (at_builtin; refine wpList_append_own_at _ rfl _ _ 26 rfl (w.heap.size + 1 + 1) 2 i0 (.int .i64 0) 1 8 Tryd.underlying26 hi0 hz0 hz1 hz2 rfl (by decide) _ _ _ rfl (World.ownsRow.alloc HRow.out _) ⟨w6.heap.size, 0, none⟩ 1 1 [.int .i64 0] rfl rfl (cell_one_new _ _ _) (by intro u hu; simp at hu; subst hu; rfl) (by unfold maxLen; omega) (by omega) (by simp; omega) ?_)
          intro v' w7 hown' hgr _ hblk
          have HX : Hid (OwnN w7 (w.heap.size + 1 + 1) v' (L ++ [0])) := by
            show OwnN _ _ _ _
            unfold OwnN
            rw [List.length_append, hpl, show numsV (L ++ [(0 : Int)]) = numsV L ++ [.int .i64 0] from by simp [numsV]]
            exact hown'
          have HR7 := Lib.hid (HR6.out.app hs6 (.cells #[.int .i64 0] 2) HX.out (by rw [hpl]; exact hgr) (by rw [World.size_alloc, hpl]; exact hblk))
          have k1w : IntKind.i64.wrap ((pl + 1 : Nat) : Int) = ((pl + 1 : Nat) : Int) := IntWalk.i64_in _ (by omega)
          have hll : (L ++ [(0 : Int)]).length = pl + 1 + 1 := by simp [hpl]
          obtain ⟨r7, rc7, rfl⟩ := Joins.ownsRow_form hown' (by omega)
          have hrow := HR7.out.at (pl + 1) (by omega)
          have hlast : (L ++ [(0 : Int)]).getD (pl + 1) 0 = 0 := by simp [hpl]
          rw [hlast] at hrow
          have HP := Lib.hid (HR7.out.put (pl + 1) (by omega) 1)
          have hfz := World.ownsRow.frozenAt hown' (pl + 1)
          have HE2 : Hid (L2 = (L ++ [(0 : Int)]).set (pl + 1) 1) := by show _ = _; rw [HE.out]; unfold incL; rw [hll, Nat.add_sub_cancel, hlast]; rfl
          clear hown' hgr HE HR6 HR7 HX HRow hlast
          go_wp2
          go_roundw
          case rel => exact ⟨_, k + 1, rfl, by omega, by go_num, by rw [HCk.out], by rw [HL2.out, HE2.out]; exact HP⟩
          case measure => simp [intOf]; omega
    · obtain rfl : k = N := by omega
      have HB9 := Lib.hid (B0.out.trans (HR.out.bel.mono (by omega)))
      go_wp2_with fail
      go_ret
      exact ⟨_, rfl, OwnN.mono HR.out.row (by omega), HB9.out⟩
end Go.Proofs.YthblhibkbcmbaaaDoor

/- Contracts of single functions, and plain lemmas, on which the exact laws of this seat rest; each holds under the conditions that it states. -/
namespace Go.Proofs.YthblhibkbcmbaaaDoor
set_option linter.unusedVariables false
set_option linter.unusedSimpArgs false
open Go.RowKit
attribute [local go_sem] Oper.semAt_some

def pxN (ss : List ByteArray) (y x : Nat) : Bool := pixI ss (x : Int) (y : Int)

set_option maxHeartbeats 4000000 in
set_option maxRecDepth 100000 in
theorem l08Along_any (pb po c n : Nat) (ss : List ByteArray) (w : World) (hp : PicAt w pb po ss) (hc : c < 4) (hn : n ≤ 4) :
    Calls Tryd.prog 30 #[.pointer (some ⟨pb, po, none⟩), .int .i64 (c : Int), .int .i64 (n : Int)] w (fun e w' => ∃ v, e = .returned v ∧ OwnN w' w.heap.size v (rnL (alF c n (pxN ss)) (2 ^ n * 2 ^ n)) ∧ Below w.heap.size w w') := by
  obtain ⟨i0, hi0, hz0, hz1, hz2⟩ := info_parts infoN64
  have CX := Lib.hid (fun W => l08Spots_any c n W hc hn)
  have HLf := Lib.hid (cvF_len c n)
  have h256 : 2 ^ n * 2 ^ n ≤ 256 := Nat.mul_le_mul (pow_le16 hn) (pow_le16 hn)
  have HBk : Hid (∀ i W, Below w.heap.size w W → Calls Tryd.prog 58 #[.pointer (some ⟨pb, po, none⟩), .int .i64 ((cvF c n).getD i (0, 0)).1, .int .i64 ((cvF c n).getD i (0, 0)).2] W (fun e w' => e = .returned (.bool (alF c n (pxN ss) i)) ∧ W = w')) := fun i W hb => by
    obtain ⟨x, y, hx, hy, e⟩ := cvF_in c n i
    have := l01Black_any pb po ss (x : Int) (y : Int) W (hp.below hb)
    unfold alF pxN
    rw [e]
    exact this
  obtain ⟨f, hf⟩ : ∃ f, alF c n (pxN ss) = f := ⟨_, rfl⟩
  rw [hf] at HBk ⊢
  obtain ⟨S, hS⟩ : ∃ S, cvF c n = S := ⟨_, rfl⟩
  rw [hS] at HBk HLf CX
  unfold TookSpots at CX
  obtain ⟨N, hN⟩ : ∃ N, 2 ^ n * 2 ^ n = N := ⟨_, rfl⟩
  rw [hN] at HLf h256 ⊢
  rw [HLf.out] at CX
  have HSame : Hid (∀ k, f k = rnC f k → rnL f (k + 1) = incL (rnL f k)) := fun k h => rnL_same h
  have HNew : Hid (∀ k, ¬ f k = rnC f k → rnL f (k + 1) = incL (rnL f k ++ [0])) := fun k h => rnL_new h
  have HCs : Hid (∀ k, rnC f (k + 1) = f k) := fun _ => rfl
  have HLn := Lib.hid (rnL_len f)
  have HAt := Lib.hid (rnL_at f)
  have H0 : Hid (rnL f 0 = [0]) := rfl
  have HC0 : Hid (rnC f 0 = false) := rfl
  obtain ⟨ru, hru⟩ : ∃ r, rnL f = r := ⟨_, rfl⟩
  obtain ⟨co, hco⟩ : ∃ r, rnC f = r := ⟨_, rfl⟩
  rw [hru] at HSame HNew HLn HAt H0 ⊢
  rw [hco] at HSame HNew HCs HC0
  clear hru hco hN hS hf hc hn hp
  go_enter Tryd.func30, Tryd.ntmps30
  go_wp2_with fail
  refine (CX.out _).mono ?_
  rintro e w1 ⟨g, cap, rfl, hown, hb1⟩
  have hb2 := Joins.below_alloc1 w1 (.cells #[.int .i64 0] 2)
  have HOw := World.ownsRow_lit (base := w1.heap.size) (e := 2) (size := 1) w1 #[.int .i64 0] 1 (Nat.le_refl _) (by unfold maxLen; omega) rfl
  obtain ⟨W0, hW0⟩ : ∃ W0, w1.alloc (.cells #[.int .i64 0] 2) = W0 := ⟨_, rfl⟩
  rw [hW0] at hb2 HOw
  have hgl := hown.lt g rfl
  have HR0 : Hid (RnAt W0 W0 w1.heap.size g N cap S (.slice (some ⟨w1.heap.size, 0, none⟩) 1 1) (ru 0)) := by
    show RnAt _ _ _ _ _ _ _ _ _
    rw [H0.out]
    exact ⟨HOw, Joins.ownsRow_le (own_below hown hb2) (by omega), fun k hk => by simp [Value.ownBlock] at hk; omega, Below.refl _ _⟩
  have HW1 := Lib.hid (hb1.trans (hb2.mono hb1.size))
  have hw0 : w1.heap.size ≤ W0.heap.size := hb2.size
  have hw1 : w.heap.size ≤ w1.heap.size := hb1.size
  have HW0 := Lib.hid hW0
  clear hb1 hb2 hown HOw hW0 CX
  go_upto_region 3 with fail
  rw [HW0.out]
  go_wp2_with fail
  go_loopw [8, 9, 10] (fun lv bv iv wr => ∃ (u : Value) (k : Nat), u = lv ∧ k ≤ N ∧ iv = .int .i64 (k : Int) ∧ bv = .bool (co k) ∧ Hid (RnAt W0 wr w1.heap.size g N cap S u (ru k))) (fun _ _ iv _ => N - (intOf iv).toNat)
  case atStart => exact ⟨_, 0, rfl, Nat.zero_le _, rfl, by rw [HC0.out], HR0⟩
  case round =>
    clear HR0
    obtain ⟨u, k, rfl, hk, rfl, rfl, HR⟩ := hrel
    by_cases hlt : k < N
    · have kk : (k : Int) < (N : Int) := by omega
      have kk0 : (0 : Int) ≤ (k : Int) := by omega
      have hsp := (OwnS.spots HR.out.own).2 k (by rw [HLf.out]; exact hlt)
      have hsr : w1.heap.size ≤ wr.heap.size := Nat.le_trans hw0 HR.out.bel.size
      have CBk := Lib.hid (fun W (hb : Below wr.heap.size wr W) => HBk.out k W ((HW1.out.trans (HR.out.bel.mono hw1)).trans (hb.mono (by omega))))
      obtain ⟨px, hpx⟩ : ∃ z, (S.getD k (0, 0)).1 = z := ⟨_, rfl⟩
      obtain ⟨py, hpy⟩ : ∃ z, (S.getD k (0, 0)).2 = z := ⟨_, rfl⟩
      rw [hpx, hpy] at hsp CBk
      have HC : Hid (∀ W, Below wr.heap.size wr W → W.cell? ⟨g, k * 2, none⟩ = some (.int .i64 px) ∧ W.cell? ⟨g, k * 2 + 1, none⟩ = some (.int .i64 py)) := fun W hb => ⟨cell_kept hb hsp.1, cell_kept hb hsp.2⟩
      obtain ⟨fb, hfb⟩ : ∃ b, f k = b := ⟨_, rfl⟩
      obtain ⟨cb, hcb⟩ : ∃ b, co k = b := ⟨_, rfl⟩
      rw [hfb] at CBk
      rw [hcb]
      have HFb := Lib.hid hfb
      have HCb := Lib.hid hcb
      clear hpx hpy hsp hfb hcb

      go_upto_region 7 with fail
      refine wp_region_inv_at (by kernel_rfl) (fun A0 L A W => ∃ (b0 b1 b2 b3 b4 b5 b6 b7 b8 b9 b10 b11 b12 b13 : Bool) (v21 v22 v23 v24 v25 v26 v27 v28 v29 v30 v31 v32 v33 v34 : Value), L = #[b0, b1, b2, b3, b4, b5, b6, b7, b8, b9, b10, b11, b12, b13] ∧ A = ((((((((((((((A0.put (some 21) v21).put (some 22) v22).put (some 23) v23).put (some 24) v24).put (some 25) v25).put (some 26) v26).put (some 27) v27).put (some 28) v28).put (some 29) v29).put (some 30) v30).put (some 31) v31).put (some 32) v32).put (some 33) v33).put (some 34) v34) ∧ (Below wr.heap.size wr W) ∧ Hid (b0 = true → v21 = .pointer (some ⟨pb, po, none⟩)) ∧ Hid (b1 = true → v22 = .slice (some ⟨g, 0, none⟩) N cap) ∧ Hid (b2 = true → v23 = .int .i64 (k : Int)) ∧ Hid (b3 = true → v24 = .pointer (some ⟨g, k * 2, none⟩)) ∧ Hid (b4 = true → v25 = .pointer (some ⟨g, k * 2, none⟩)) ∧ Hid (b5 = true → v26 = .int .i64 px) ∧ Hid (b6 = true → v27 = .slice (some ⟨g, 0, none⟩) N cap) ∧ Hid (b7 = true → v28 = .int .i64 (k : Int)) ∧ Hid (b8 = true → v29 = .pointer (some ⟨g, k * 2, none⟩)) ∧ Hid (b9 = true → v30 = .pointer (some ⟨g, k * 2 + 1, none⟩)) ∧ Hid (b10 = true → v31 = .int .i64 py) ∧ Hid (b11 = true → v32 = .bool fb) ∧ Hid (b12 = true → v33 = .bool cb) ∧ Hid (b13 = true → v34 = .bool (!(fb == cb)))) ?_ ?_ ?_
      · intro A0
        refine ⟨false, false, false, false, false, false, false, false, false, false, false, false, false, false, A0.tmps.getD 21 undef, A0.tmps.getD 22 undef, A0.tmps.getD 23 undef, A0.tmps.getD 24 undef, A0.tmps.getD 25 undef, A0.tmps.getD 26 undef, A0.tmps.getD 27 undef, A0.tmps.getD 28 undef, A0.tmps.getD 29 undef, A0.tmps.getD 30 undef, A0.tmps.getD 31 undef, A0.tmps.getD 32 undef, A0.tmps.getD 33 undef, A0.tmps.getD 34 undef, rfl, (by simp only [put_self]), (Below.refl _ _).drew, Lib.hid (fun hf => by cases hf), Lib.hid (fun hf => by cases hf), Lib.hid (fun hf => by cases hf), Lib.hid (fun hf => by cases hf), Lib.hid (fun hf => by cases hf), Lib.hid (fun hf => by cases hf), Lib.hid (fun hf => by cases hf), Lib.hid (fun hf => by cases hf), Lib.hid (fun hf => by cases hf), Lib.hid (fun hf => by cases hf), Lib.hid (fun hf => by cases hf), Lib.hid (fun hf => by cases hf), Lib.hid (fun hf => by cases hf), Lib.hid (fun hf => by cases hf)⟩
      · intro L A W hI i hi o ho K' hK
        have hlt := (ready_left hi).1
        have hun := (ready_left hi).2
        have haf := ready_after hi ho
        clear hi
        obtain ⟨b0, b1, b2, b3, b4, b5, b6, b7, b8, b9, b10, b11, b12, b13, v21, v22, v23, v24, v25, v26, v27, v28, v29, v30, v31, v32, v33, v34, rfl, rfl, hB, h0, h1, h2, h3, h4, h5, h6, h7, h8, h9, h10, h11, h12, h13⟩ := hI
        have hc : i = 0 ∨ i = 1 ∨ i = 2 ∨ i = 3 ∨ i = 4 ∨ i = 5 ∨ i = 6 ∨ i = 7 ∨ i = 8 ∨ i = 9 ∨ i = 10 ∨ i = 11 ∨ i = 12 ∨ i = 13 := by
          simp at hlt
          omega
        have qq := HC.out W hB
        obtain ⟨q0, q1⟩ := qq
        rcases hc with rfl | rfl | rfl | rfl | rfl | rfl | rfl | rfl | rfl | rfl | rfl | rfl | rfl | rfl
        all_goals (obtain rfl := Option.some.inj ho; clear ho; simp [Region.binds] at haf hun; (try simp only [List.getElem_toArray, List.getElem_cons_zero, List.getElem_cons_succ]); simp only [Act.put, List.setIfInBounds_toArray, List.set_cons_zero, List.set_cons_succ])
        · -- operation 0
          replace hK := Lib.hid hK
          subst hun
          go_simp
          exact hK.out _ _ ⟨true, b1, b2, b3, b4, b5, b6, b7, b8, b9, b10, b11, b12, b13, .pointer (some ⟨pb, po, none⟩), v22, v23, v24, v25, v26, v27, v28, v29, v30, v31, v32, v33, v34, rfl, (by simp only [Act.put, List.setIfInBounds_toArray, List.set_cons_zero, List.set_cons_succ]), hB, Lib.hid (fun _ => rfl), h1, h2, h3, h4, h5, h6, h7, h8, h9, h10, h11, h12, h13⟩
        · -- operation 1
          replace hK := Lib.hid hK
          subst hun
          go_simp
          exact hK.out _ _ ⟨b0, true, b2, b3, b4, b5, b6, b7, b8, b9, b10, b11, b12, b13, v21, .slice (some ⟨g, 0, none⟩) N cap, v23, v24, v25, v26, v27, v28, v29, v30, v31, v32, v33, v34, rfl, (by simp only [Act.put, List.setIfInBounds_toArray, List.set_cons_zero, List.set_cons_succ]), hB, h0, Lib.hid (fun _ => rfl), h2, h3, h4, h5, h6, h7, h8, h9, h10, h11, h12, h13⟩
        · -- operation 2
          replace hK := Lib.hid hK
          subst hun
          go_simp
          exact hK.out _ _ ⟨b0, b1, true, b3, b4, b5, b6, b7, b8, b9, b10, b11, b12, b13, v21, v22, .int .i64 (k : Int), v24, v25, v26, v27, v28, v29, v30, v31, v32, v33, v34, rfl, (by simp only [Act.put, List.setIfInBounds_toArray, List.set_cons_zero, List.set_cons_succ]), hB, h0, h1, Lib.hid (fun _ => rfl), h3, h4, h5, h6, h7, h8, h9, h10, h11, h12, h13⟩
        · -- operation 3
          replace hK := Lib.hid hK
          obtain rfl := (h1.out (by simp only [haf])).symm
          obtain rfl := (h2.out (by simp only [haf])).symm
          subst hun
          go_simp
          exact hK.out _ _ ⟨b0, b1, b2, true, b4, b5, b6, b7, b8, b9, b10, b11, b12, b13, v21, .slice (some ⟨g, 0, none⟩) N cap, .int .i64 (k : Int), .pointer (some ⟨g, k * 2, none⟩), v25, v26, v27, v28, v29, v30, v31, v32, v33, v34, rfl, (by simp only [Act.put, List.setIfInBounds_toArray, List.set_cons_zero, List.set_cons_succ]), hB, h0, Lib.hid (fun _ => rfl), Lib.hid (fun _ => rfl), Lib.hid (fun _ => rfl), h4, h5, h6, h7, h8, h9, h10, h11, h12, h13⟩
        · -- operation 4
          replace hK := Lib.hid hK
          obtain rfl := (h3.out (by simp only [haf])).symm
          subst hun
          go_simp
          exact hK.out _ _ ⟨b0, b1, b2, b3, true, b5, b6, b7, b8, b9, b10, b11, b12, b13, v21, v22, v23, .pointer (some ⟨g, k * 2, none⟩), .pointer (some ⟨g, k * 2, none⟩), v26, v27, v28, v29, v30, v31, v32, v33, v34, rfl, (by simp only [Act.put, List.setIfInBounds_toArray, List.set_cons_zero, List.set_cons_succ]), hB, h0, h1, h2, Lib.hid (fun _ => rfl), Lib.hid (fun _ => rfl), h5, h6, h7, h8, h9, h10, h11, h12, h13⟩
        · -- operation 5
          replace hK := Lib.hid hK
          obtain rfl := (h4.out (by simp only [haf])).symm
          subst hun
          go_simp
          exact hK.out _ _ ⟨b0, b1, b2, b3, b4, true, b6, b7, b8, b9, b10, b11, b12, b13, v21, v22, v23, v24, .pointer (some ⟨g, k * 2, none⟩), .int .i64 px, v27, v28, v29, v30, v31, v32, v33, v34, rfl, (by simp only [Act.put, List.setIfInBounds_toArray, List.set_cons_zero, List.set_cons_succ]), hB, h0, h1, h2, h3, Lib.hid (fun _ => rfl), Lib.hid (fun _ => rfl), h6, h7, h8, h9, h10, h11, h12, h13⟩
        · -- operation 6
          replace hK := Lib.hid hK
          subst hun
          go_simp
          exact hK.out _ _ ⟨b0, b1, b2, b3, b4, b5, true, b7, b8, b9, b10, b11, b12, b13, v21, v22, v23, v24, v25, v26, .slice (some ⟨g, 0, none⟩) N cap, v28, v29, v30, v31, v32, v33, v34, rfl, (by simp only [Act.put, List.setIfInBounds_toArray, List.set_cons_zero, List.set_cons_succ]), hB, h0, h1, h2, h3, h4, h5, Lib.hid (fun _ => rfl), h7, h8, h9, h10, h11, h12, h13⟩
        · -- operation 7
          replace hK := Lib.hid hK
          subst hun
          go_simp
          exact hK.out _ _ ⟨b0, b1, b2, b3, b4, b5, b6, true, b8, b9, b10, b11, b12, b13, v21, v22, v23, v24, v25, v26, v27, .int .i64 (k : Int), v29, v30, v31, v32, v33, v34, rfl, (by simp only [Act.put, List.setIfInBounds_toArray, List.set_cons_zero, List.set_cons_succ]), hB, h0, h1, h2, h3, h4, h5, h6, Lib.hid (fun _ => rfl), h8, h9, h10, h11, h12, h13⟩
        · -- operation 8
          replace hK := Lib.hid hK
          obtain rfl := (h6.out (by simp only [haf])).symm
          obtain rfl := (h7.out (by simp only [haf])).symm
          subst hun
          go_simp
          exact hK.out _ _ ⟨b0, b1, b2, b3, b4, b5, b6, b7, true, b9, b10, b11, b12, b13, v21, v22, v23, v24, v25, v26, .slice (some ⟨g, 0, none⟩) N cap, .int .i64 (k : Int), .pointer (some ⟨g, k * 2, none⟩), v30, v31, v32, v33, v34, rfl, (by simp only [Act.put, List.setIfInBounds_toArray, List.set_cons_zero, List.set_cons_succ]), hB, h0, h1, h2, h3, h4, h5, Lib.hid (fun _ => rfl), Lib.hid (fun _ => rfl), Lib.hid (fun _ => rfl), h9, h10, h11, h12, h13⟩
        · -- operation 9
          replace hK := Lib.hid hK
          obtain rfl := (h8.out (by simp only [haf])).symm
          subst hun
          go_simp
          exact hK.out _ _ ⟨b0, b1, b2, b3, b4, b5, b6, b7, b8, true, b10, b11, b12, b13, v21, v22, v23, v24, v25, v26, v27, v28, .pointer (some ⟨g, k * 2, none⟩), .pointer (some ⟨g, k * 2 + 1, none⟩), v31, v32, v33, v34, rfl, (by simp only [Act.put, List.setIfInBounds_toArray, List.set_cons_zero, List.set_cons_succ]), hB, h0, h1, h2, h3, h4, h5, h6, h7, Lib.hid (fun _ => rfl), Lib.hid (fun _ => rfl), h10, h11, h12, h13⟩
        · -- operation 10
          replace hK := Lib.hid hK
          obtain rfl := (h9.out (by simp only [haf])).symm
          subst hun
          go_simp
          exact hK.out _ _ ⟨b0, b1, b2, b3, b4, b5, b6, b7, b8, b9, true, b11, b12, b13, v21, v22, v23, v24, v25, v26, v27, v28, v29, .pointer (some ⟨g, k * 2 + 1, none⟩), .int .i64 py, v32, v33, v34, rfl, (by simp only [Act.put, List.setIfInBounds_toArray, List.set_cons_zero, List.set_cons_succ]), hB, h0, h1, h2, h3, h4, h5, h6, h7, h8, Lib.hid (fun _ => rfl), Lib.hid (fun _ => rfl), h11, h12, h13⟩
        · -- operation 11
          replace hK := Lib.hid hK
          obtain rfl := (h0.out (by simp only [haf])).symm
          obtain rfl := (h5.out (by simp only [haf])).symm
          obtain rfl := (h10.out (by simp only [haf])).symm
          subst hun
          go_simp
          refine (CBk.out W hB).mono ?_
          rintro e W' ⟨rfl, hb⟩
          replace hb : Below W.heap.size W W' := by rw [← hb]; exact Below.refl _ _
          have hkept := fun kb (hk : kb < W.heap.size) => hb.block kb hk
          exact hK.out _ _ ⟨b0, b1, b2, b3, b4, b5, b6, b7, b8, b9, b10, true, b12, b13, .pointer (some ⟨pb, po, none⟩), v22, v23, v24, v25, .int .i64 px, v27, v28, v29, v30, .int .i64 py, .bool fb, v33, v34, rfl, (by simp only [Act.put, List.setIfInBounds_toArray, List.set_cons_zero, List.set_cons_succ]), hB.trans (hb.mono hB.size), Lib.hid (fun _ => rfl), h1, h2, h3, h4, Lib.hid (fun _ => rfl), h6, h7, h8, h9, Lib.hid (fun _ => rfl), Lib.hid (fun _ => rfl), h12, h13⟩
        · -- operation 12
          replace hK := Lib.hid hK
          subst hun
          go_simp
          exact hK.out _ _ ⟨b0, b1, b2, b3, b4, b5, b6, b7, b8, b9, b10, b11, true, b13, v21, v22, v23, v24, v25, v26, v27, v28, v29, v30, v31, v32, .bool cb, v34, rfl, (by simp only [Act.put, List.setIfInBounds_toArray, List.set_cons_zero, List.set_cons_succ]), hB, h0, h1, h2, h3, h4, h5, h6, h7, h8, h9, h10, h11, Lib.hid (fun _ => rfl), h13⟩
        · -- operation 13
          replace hK := Lib.hid hK
          obtain rfl := (h11.out (by simp only [haf])).symm
          obtain rfl := (h12.out (by simp only [haf])).symm
          subst hun
          go_simp
          exact hK.out _ _ ⟨b0, b1, b2, b3, b4, b5, b6, b7, b8, b9, b10, b11, b12, true, v21, v22, v23, v24, v25, v26, v27, v28, v29, v30, v31, .bool fb, .bool cb, .bool (!(fb == cb)), rfl, (by simp only [Act.put, List.setIfInBounds_toArray, List.set_cons_zero, List.set_cons_succ]), hB, h0, h1, h2, h3, h4, h5, h6, h7, h8, h9, h10, Lib.hid (fun _ => rfl), Lib.hid (fun _ => rfl), Lib.hid (fun _ => rfl)⟩
      intro L A W hI hr
      obtain ⟨b0, b1, b2, b3, b4, b5, b6, b7, b8, b9, b10, b11, b12, b13, v21, v22, v23, v24, v25, v26, v27, v28, v29, v30, v31, v32, v33, v34, rfl, rfl, hB, h0, h1, h2, h3, h4, h5, h6, h7, h8, h9, h10, h11, h12, h13⟩ := hI
      have d0 := ready_done hr 0 _ rfl (by simp [Region.binds])
      have d1 := ready_done hr 1 _ rfl (by simp [Region.binds])
      have d2 := ready_done hr 2 _ rfl (by simp [Region.binds])
      have d6 := ready_done hr 6 _ rfl (by simp [Region.binds])
      have d7 := ready_done hr 7 _ rfl (by simp [Region.binds])
      have d12 := ready_done hr 12 _ rfl (by simp [Region.binds])
      simp at d0 d1 d2 d6 d7 d12
      subst d0 d1 d2 d6 d7 d12
      have d3 := ready_done hr 3 _ rfl (by simp [Region.binds])
      have d8 := ready_done hr 8 _ rfl (by simp [Region.binds])
      simp at d3 d8
      subst d3 d8
      have d4 := ready_done hr 4 _ rfl (by simp [Region.binds])
      have d9 := ready_done hr 9 _ rfl (by simp [Region.binds])
      simp at d4 d9
      subst d4 d9
      have d5 := ready_done hr 5 _ rfl (by simp [Region.binds])
      have d10 := ready_done hr 10 _ rfl (by simp [Region.binds])
      simp at d5 d10
      subst d5 d10
      have d11 := ready_done hr 11 _ rfl (by simp [Region.binds])
      simp at d11
      subst d11
      have d13 := ready_done hr 13 _ rfl (by simp [Region.binds])
      simp at d13
      subst d13
      obtain rfl := (h0.out rfl).symm
      obtain rfl := (h1.out rfl).symm
      obtain rfl := (h2.out rfl).symm
      obtain rfl := (h3.out rfl).symm
      obtain rfl := (h4.out rfl).symm
      obtain rfl := (h5.out rfl).symm
      obtain rfl := (h6.out rfl).symm
      obtain rfl := (h7.out rfl).symm
      obtain rfl := (h8.out rfl).symm
      obtain rfl := (h9.out rfl).symm
      obtain rfl := (h10.out rfl).symm
      obtain rfl := (h11.out rfl).symm
      obtain rfl := (h12.out rfl).symm
      obtain rfl := (h13.out rfl).symm
      simp only [Act.put, List.setIfInBounds_toArray, List.set_cons_zero, List.set_cons_succ]
      clear hr h0 h1 h2 h3 h4 h5 h6 h7 h8 h9 h10 h11 h12 h13
      have HB2 := Lib.hid hB
      clear hB

      have HR6 := Lib.hid (HR.out.below hsr HB2.out)
      have hs6 : w1.heap.size ≤ W.heap.size := Nat.le_trans hsr HB2.out.size
      have hl := HLn.out k
      have hcs := HCs.out k
      have ha := HAt.out k ((ru k).length - 1)
      have HSk := Lib.hid (HSame.out k)
      have HNk := Lib.hid (HNew.out k)
      obtain ⟨L, hL⟩ : ∃ L, ru k = L := ⟨_, rfl⟩
      rw [hL] at hl HR6 HSk HNk ha
      obtain ⟨L2, hL2⟩ : ∃ L, ru (k + 1) = L := ⟨_, rfl⟩
      rw [hL2] at HSk HNk
      have HL2 := Lib.hid hL2
      have HCk := Lib.hid hcs
      rw [HFb.out] at HSk HNk HCk
      rw [HCb.out] at HSk HNk
      obtain ⟨pl, hpl⟩ : ∃ p, L.length = p + 1 := ⟨L.length - 1, by omega⟩
      clear hL hL2 hcs HR HB2 HC
      obtain ⟨nb, hnb⟩ : ∃ b, (!(fb == cb)) = b := ⟨_, rfl⟩
      rw [hnb]
      by_cases hsame : fb = cb
      · obtain rfl : nb = false := by rw [← hnb, hsame]; simp
        clear hnb
        have HE := Lib.hid (HSk.out hsame)
        have k1w : IntKind.i64.wrap (pl : Int) = (pl : Int) := IntWalk.i64_in _ (by omega)
        obtain ⟨r, rc, rfl⟩ := Joins.ownsRow_form HR6.out.row (by omega)
        have hrow := HR6.out.at pl (by omega)
        have HP := Lib.hid (HR6.out.put pl (by omega) (L.getD pl 0 + 1))
        have hfz := World.ownsRow.frozenAt HR6.out.row pl
        rw [show L.length - 1 = pl from by omega] at ha
        have HE2 : Hid (L2 = L.set pl (L.getD pl 0 + 1)) := by show _ = _; rw [HE.out]; unfold incL; rw [hpl, Nat.add_sub_cancel]
        obtain ⟨x, hx⟩ : ∃ x, L.getD pl 0 = x := ⟨_, rfl⟩
        rw [hx] at hrow HP ha HE2
        have kx : IntKind.i64.wrap (x + 1) = x + 1 := IntWalk.i64_in _ (by omega)
        rw [hpl] at HP ⊢
        subst hsame
        clear HE HR6 hx HSk HNk
        go_wp2
        go_roundw
        case rel => exact ⟨_, k + 1, rfl, by omega, by go_num, by rw [HCk.out], by rw [HL2.out, HE2.out]; exact HP⟩
        case measure => simp [intOf]; omega
      · have HE := Lib.hid (HNk.out hsame)
        have HRow := Lib.hid (show W.ownsRow w1.heap.size 2 1 u L.length (numsV L) from HR6.out.row)
        obtain ⟨r, rc, rfl⟩ := Joins.ownsRow_form HR6.out.row (by omega)
        have h2 : (fb = true ∧ cb = false) ∨ (fb = false ∧ cb = true) := by revert hsame; cases fb <;> cases cb <;> simp
        clear hsame HSk HNk
        rcases h2 with ⟨rfl, rfl⟩ | ⟨rfl, rfl⟩
        · obtain rfl : true = nb := hnb
          rw [hpl] at HRow ⊢
          go_wp2_with (at_builtin; refine wpList_append_own_at _ rfl _ _ 26 rfl w1.heap.size 2 i0 (.int .i64 0) 1 8 Tryd.underlying26 hi0 hz0 hz1 hz2 rfl (by decide) _ _ _ rfl (World.ownsRow.alloc HRow.out _) ⟨W.heap.size, 0, none⟩ 1 1 [.int .i64 0] rfl rfl (cell_one_new _ _ _) (by intro u hu; simp at hu; subst hu; rfl) (by unfold maxLen; omega) (by omega) (by simp; omega) ?_)
          intro v' w7 hown' hgr _ hblk
          have HX : Hid (OwnN w7 w1.heap.size v' (L ++ [0])) := by
            show OwnN _ _ _ _
            unfold OwnN
            rw [List.length_append, hpl, show numsV (L ++ [(0 : Int)]) = numsV L ++ [.int .i64 0] from by simp [numsV]]
            exact hown'
          have HR7 := Lib.hid (HR6.out.app hs6 (.cells #[.int .i64 0] 2) HX.out (by rw [hpl]; exact hgr) (by rw [World.size_alloc, hpl]; exact hblk))
          have k1w : IntKind.i64.wrap ((pl + 1 : Nat) : Int) = ((pl + 1 : Nat) : Int) := IntWalk.i64_in _ (by omega)
          have hll : (L ++ [(0 : Int)]).length = pl + 1 + 1 := by simp [hpl]
          obtain ⟨r7, rc7, rfl⟩ := Joins.ownsRow_form hown' (by omega)
          have hrow := HR7.out.at (pl + 1) (by omega)
          have hlast : (L ++ [(0 : Int)]).getD (pl + 1) 0 = 0 := by simp [hpl]
          rw [hlast] at hrow
          have HP := Lib.hid (HR7.out.put (pl + 1) (by omega) 1)
          have hfz := World.ownsRow.frozenAt hown' (pl + 1)
          have HE2 : Hid (L2 = (L ++ [(0 : Int)]).set (pl + 1) 1) := by show _ = _; rw [HE.out]; unfold incL; rw [hll, Nat.add_sub_cancel, hlast]; rfl
          clear hown' hgr HE HR6 HR7 HX HRow hlast
          go_wp2
          go_roundw
          case rel => exact ⟨_, k + 1, rfl, by omega, by go_num, by rw [HCk.out], by rw [HL2.out, HE2.out]; exact HP⟩
          case measure => simp [intOf]; omega
        · obtain rfl : true = nb := hnb
          rw [hpl] at HRow ⊢
          go_wp2_with (at_builtin; refine wpList_append_own_at _ rfl _ _ 26 rfl w1.heap.size 2 i0 (.int .i64 0) 1 8 Tryd.underlying26 hi0 hz0 hz1 hz2 rfl (by decide) _ _ _ rfl (World.ownsRow.alloc HRow.out _) ⟨W.heap.size, 0, none⟩ 1 1 [.int .i64 0] rfl rfl (cell_one_new _ _ _) (by intro u hu; simp at hu; subst hu; rfl) (by unfold maxLen; omega) (by omega) (by simp; omega) ?_)
          intro v' w7 hown' hgr _ hblk
          have HX : Hid (OwnN w7 w1.heap.size v' (L ++ [0])) := by
            show OwnN _ _ _ _
            unfold OwnN
            rw [List.length_append, hpl, show numsV (L ++ [(0 : Int)]) = numsV L ++ [.int .i64 0] from by simp [numsV]]
            exact hown'
          have HR7 := Lib.hid (HR6.out.app hs6 (.cells #[.int .i64 0] 2) HX.out (by rw [hpl]; exact hgr) (by rw [World.size_alloc, hpl]; exact hblk))
          have k1w : IntKind.i64.wrap ((pl + 1 : Nat) : Int) = ((pl + 1 : Nat) : Int) := IntWalk.i64_in _ (by omega)
          have hll : (L ++ [(0 : Int)]).length = pl + 1 + 1 := by simp [hpl]
          obtain ⟨r7, rc7, rfl⟩ := Joins.ownsRow_form hown' (by omega)
          have hrow := HR7.out.at (pl + 1) (by omega)
          have hlast : (L ++ [(0 : Int)]).getD (pl + 1) 0 = 0 := by simp [hpl]
          rw [hlast] at hrow
          have HP := Lib.hid (HR7.out.put (pl + 1) (by omega) 1)
          have hfz := World.ownsRow.frozenAt hown' (pl + 1)
          have HE2 : Hid (L2 = (L ++ [(0 : Int)]).set (pl + 1) 1) := by show _ = _; rw [HE.out]; unfold incL; rw [hll, Nat.add_sub_cancel, hlast]; rfl
          clear hown' hgr HE HR6 HR7 HX HRow hlast
          go_wp2
          go_roundw
          case rel => exact ⟨_, k + 1, rfl, by omega, by go_num, by rw [HCk.out], by rw [HL2.out, HE2.out]; exact HP⟩
          case measure => simp [intOf]; omega
    · obtain rfl : k = N := by omega
      have HB9 := Lib.hid (HW1.out.trans (HR.out.bel.mono hw1))
      go_wp2_with fail
      go_ret
      exact ⟨_, rfl, OwnN.mono HR.out.row hw1, HB9.out⟩

/-! ### the order of a side -/
def odV (s : Int) : Int := if s = 1 then 0 else if s = 2 then 1 else if s = 4 then 2 else if s = 8 then 3 else if s = 16 then 4 else -1
theorem odV_sd (k : Nat) (hk : k ≤ 4) (s : Int) (h : sd (k : Int) = s) : odV s = (k : Int) := by
  subst h
  rcases (by omega : k = 0 ∨ k = 1 ∨ k = 2 ∨ k = 3 ∨ k = 4) with rfl | rfl | rfl | rfl | rfl <;> decide
theorem odV_none (s : Int) (h : ∀ j : Nat, j < 5 → ¬ sd (j : Int) = s) : odV s = -1 := by
  have h0 : ¬ (1 : Int) = s := h 0 (by omega)
  have h1 : ¬ (2 : Int) = s := h 1 (by omega)
  have h2 : ¬ (4 : Int) = s := h 2 (by omega)
  have h3 : ¬ (8 : Int) = s := h 3 (by omega)
  have h4 : ¬ (16 : Int) = s := h 4 (by omega)
  unfold odV
  rw [if_neg (Ne.symm h0), if_neg (Ne.symm h1), if_neg (Ne.symm h2), if_neg (Ne.symm h3), if_neg (Ne.symm h4)]

set_option maxHeartbeats 4000000 in
set_option maxRecDepth 100000 in
theorem l08Order_any (s : Int) (w : World) : Calls Tryd.prog 28 #[.int .i64 s] w (fun e w' => e = .returned (.int .i64 (odV s)) ∧ w = w') := by
  have HSd := Lib.hid (fun (k : Nat) (W : World) (h : k < 5) => l08Side_any (k : Int) W (by omega) (by omega))
  have HY := Lib.hid (fun (k : Nat) (h : k ≤ 4) => odV_sd k h s)
  have HNo := Lib.hid (odV_none s)
  go_enter Tryd.func28, Tryd.ntmps28
  go_wp2_with fail
  go_loopw [3] (fun iv wr => ∃ k : Nat, k ≤ 5 ∧ iv = .int .i64 (k : Int) ∧ (∀ j : Nat, j < k → ¬ sd (j : Int) = s) ∧ w = wr) (fun iv _ => 5 - (intOf iv).toNat)
  case atStart => exact ⟨0, by omega, rfl, fun j h => absurd h (Nat.not_lt_zero j), (by trivial)⟩
  case round =>
    obtain ⟨k, hk, rfl, hno, rfl⟩ := hrel
    by_cases hlt : k < 5
    · have kk : (k : Int) ≤ 4 := by omega
      have C := Lib.hid (fun W => HSd.out k W hlt)
      have HYk := Lib.hid (HY.out k (by omega))
      have HNN := Lib.hid hno
      obtain ⟨z, hz⟩ : ∃ z, sd (k : Int) = z := ⟨_, rfl⟩
      rw [hz] at C HYk
      have HZ := Lib.hid hz
      clear hno hz
      go_wp2_with fail
      refine (C.out _).mono ?_
      rintro e w2 ⟨rfl, rfl⟩
      by_cases he : z = s
      · have HF := Lib.hid (HYk.out he)
        subst he
        go_wp2
        go_ret
        exact ⟨ret_int HF.out.symm, rfl⟩
      · have HHe := Lib.hid he
        go_wp2
        go_roundw
        case rel => exact ⟨k + 1, by omega, by go_num, fun j hj => by
            rcases Nat.lt_succ_iff_lt_or_eq.1 hj with h | h
            · exact HNN.out j h
            · subst h
              rw [HZ.out]
              exact HHe.out, (by trivial)⟩
        case measure => simp [intOf]; omega
    · obtain rfl : k = 5 := by omega
      have HF := Lib.hid (HNo.out hno)
      clear hno
      go_wp2
      go_ret
      exact ⟨ret_int HF.out.symm, rfl⟩
end Go.Proofs.YthblhibkbcmbaaaDoor
