/- Contracts of single functions, and plain lemmas, on which the exact laws of this seat rest; each holds under the conditions that it states. -/
import Derived.Test.YtabkkpifkkgpeaaDoorL3
import Derived.Test.YtabkkpifkkgpeaaDoorLt
import Derived.Test.YtabkkpifkkgpeaaDoorRI
namespace Go.Proofs.YtabkkpifkkgpeaaDoor
set_option linter.unusedVariables false
set_option linter.unusedSimpArgs false
open Go.RowKit

theorem infoPi1 : (Tryd.prog.info? 42).map (·.size) = some 1 := by kernel_rfl
theorem built_m (a b : Int) : Tryd.prog.built 96 [(0, .int .i64 a), (1, .int .i64 b)] = some (mcells a b (fun _ => 0)) := by kernel_rfl
/-! ### the picture of a plane -/
def plP (g : Nat → Nat) (a Y j : Nat) : Nat := if j < Y then (g (j + 4) / 16) &&& (2 ^ a - 1) else 0
theorem plP_zero (g : Nat → Nat) (a b : Nat) : mat a b (plP g a 0) = mcells a b (fun _ => 0) := by
  unfold mat
  refine mcells_congr _ _ (fun j _ => ?_)
  unfold plP
  rw [if_neg (by omega)]
  rfl
theorem plP_step (g : Nat → Nat) (a b y : Nat) (hy : y < 16) : (mat a b (plP g a y)).setIfInBounds (2 + y) (.int .u32 (((g (y + 4) / 16) &&& (2 ^ a - 1) : Nat) : Int)) = mat a b (plP g a (y + 1)) := by
  rw [mat_put a b _ y hy]
  unfold mat
  refine mcells_congr _ _ (fun j _ => ?_)
  unfold plP
  dsimp only
  by_cases e : j = y
  · subst e
    rw [if_pos rfl, if_pos (by omega)]
  · rw [if_neg e]
    by_cases h2 : j < y
    · rw [if_pos h2, if_pos (by omega)]
    · rw [if_neg h2, if_neg (by omega)]
theorem plP_lt (g : Nat → Nat) (a Y j : Nat) (ha : a ≤ 16) : plP g a Y j < 65536 := by
  unfold plP
  have h : 2 ^ a ≤ 2 ^ 16 := Nat.pow_le_pow_right (by omega) ha
  have h0 : 0 < 2 ^ a := Nat.pow_pos (by omega)
  split
  · exact Nat.lt_of_le_of_lt Nat.and_le_right (by omega)
  · omega
/-- the pixels of a plane -/
def plX (g : Nat → Nat) (y x : Nat) : Bool := (g (y + 4)).testBit (x + 4)
theorem plP_bit (g : Nat → Nat) (a b y x : Nat) (hy : y < b) (hx : x < a) : (plP g a b y).testBit x = plX g y x := by
  unfold plP plX
  rw [if_pos hy, Nat.testBit_and, Nat.testBit_two_pow_sub_one, decide_eq_true hx, Bool.and_true]
  rw [show (16 : Nat) = 2 ^ 4 from rfl, Nat.testBit_div_two_pow, Nat.add_comm]

set_option maxHeartbeats 4000000 in
set_option maxRecDepth 100000 in
theorem planePic_any (a b : Nat) (g : Nat → Nat) (w : World) (ha : 1 ≤ a ∧ a ≤ 16) (hb : 1 ≤ b ∧ b ≤ 16) (hg : PlW g) :
    Calls Tryd.prog 86 #[.agg (pl a b g)] w (TookPic w (mkPic a b (plX g))) := by
  obtain ⟨M, hM⟩ : ∃ M, pl a b g = M := ⟨_, rfl⟩
  have HMM := Lib.hid hM
  rw [hM]
  have CP : Hid (∀ W, Calls Tryd.prog 99 #[.agg (mat a b (plP g a b))] W (TookPic W (mkPic a b (plX g)))) := fun W => by
    have := picture_any (mat a b (plP g a b)) a b (plP g a b) W rfl ha.2 hb.2 (fun j => Nat.lt_trans (plP_lt g a b j ha.2) (by decide))
    rwa [mkPic_congr (f := fun y x => blackB a b (plP g a b) (x : Int) (y : Int)) (g := plX g) fun y hy x hx => by
      show blackB a b (plP g a b) (x : Int) (y : Int) = plX g y x
      unfold blackB
      rw [hasB_insB, in_range hx hy, Bool.true_and, Int.toNat_natCast, Int.toNat_natCast]
      exact plP_bit g a b y x hy hx] at this
  obtain ⟨P2, hP2⟩ : ∃ P2, mat a b (plP g a b) = P2 := ⟨_, rfl⟩
  have HP2 := Lib.hid hP2
  have hsz2 : P2.size = 18 := by rw [← hP2]; rfl
  have HI4 : Hid ((Tryd.prog.info? 96).map (·.size) = some P2.size) := by show _ = _; rw [hsz2]; exact infoM
  rw [hP2] at CP
  obtain ⟨pic, hpic⟩ : ∃ x, mkPic a b (plX g) = x := ⟨_, rfl⟩
  rw [hpic] at CP ⊢
  have CMk := Lib.hid (fun W => maskOf_any a W ha.2)
  have hk : 2 ^ a ≤ 2 ^ 16 := Nat.pow_le_pow_right (by omega) ha.2
  have hk0 : 0 < 2 ^ a := Nat.pow_pos (by omega)
  have KD : Hid (∀ W : Nat, W < 16777216 → bits .and .u32 ((W : Int) / 16) ((2 ^ a - 1 : Nat) : Int) = (((W / 16) &&& (2 ^ a - 1) : Nat) : Int)) := fun W hW => by
    rw [show (W : Int) / 16 = ((W / 16 : Nat) : Int) from by omega]
    exact u32_and_nat _ _ (by omega) (by omega)
  have hb0 := Joins.below_alloc2 w (.cells M 113) (.cells #[.slice none 0 0] 42)
  have hq0 : ((w.alloc (.cells M 113)).alloc (.cells #[.slice none 0 0] 42)).heap[w.heap.size]? = some (.cells M 113 (0, 0)) := by
    rw [Below.heap_alloc _ _ _ (by simp)]; exact heap_alloc_last w _
  have hr0 : ((w.alloc (.cells M 113)).alloc (.cells #[.slice none 0 0] 42)).heap[w.heap.size + 1]? = some (.cells #[.slice none 0 0] 42 (0, 0)) := heap_alloc2_new _ _ _
  obtain ⟨W0, hW0⟩ : ∃ W0, (w.alloc (.cells M 113)).alloc (.cells #[.slice none 0 0] 42) = W0 := ⟨_, rfl⟩
  have hw0 : W0.heap.size = w.heap.size + 1 + 1 := by rw [← hW0]; simp
  rw [hW0] at hb0 hq0 hr0
  have c0 : W0.cell? ⟨w.heap.size, 0, none⟩ = some (.int .i64 a) := by
    rw [Joins.cell_of_block hq0 0, ← hM]; rfl
  have c1 : W0.cell? ⟨w.heap.size, 1, none⟩ = some (.int .i64 b) := by
    rw [Joins.cell_of_block hq0 1, ← hM]; rfl
  have HW0 := Lib.hid hW0
  have HI1 : Hid ((Tryd.prog.info? 96).map (·.size) = some (mcells a b (fun _ => 0)).size) := infoM
  have HI2 : Hid (zeros.size = (mcells a b (fun _ => 0)).size) := rfl
  have HI3 : Hid ((mcells a b (fun _ => 0)).all (·.oneCell') = true) := mcells_one a b (fun _ => 0)
  have HBl := Lib.hid (built_m a b)
  have hC1 : (mcells a b (fun _ => 0))[1]? = some (.int .i64 (b : Int)) := rfl
  obtain ⟨C0, hC0⟩ : ∃ C, mcells (a : Int) (b : Int) (fun _ => 0) = C := ⟨_, rfl⟩
  have HC0 := Lib.hid hC0
  rw [hC0] at HI1 HI2 HI3 HBl hC1
  have hbA := Joins.below_alloc1 W0 (.cells C0 96)
  have HM2 := Lib.hid ((hbA.block _ (Array.getElem?_eq_some_iff.1 hq0).1).trans hq0)
  have HR2 := Lib.hid ((hbA.block _ (Array.getElem?_eq_some_iff.1 hr0).1).trans hr0)
  have HS2 : Hid ((W0.alloc (.cells C0 96)).heap[W0.heap.size]? = some (.cells C0 96 (0, 0))) := heap_alloc_last W0 _
  have cs : (W0.alloc (.cells C0 96)).cell? ⟨W0.heap.size, 1, none⟩ = some (.int .i64 b) := by
    rw [Joins.cell_of_block HS2.out 1]; exact hC1
  have HB2 := Lib.hid (hb0.alloc hb0.size (.cells C0 96))
  have l0 : w.heap.size + 1 < W0.heap.size := by omega
  obtain ⟨ha1, ha16⟩ := ha
  obtain ⟨hb1, hb16⟩ := hb
  clear hM hW0 hq0 hr0 hb0 hC0 hw0 hbA hP2 hsz2 hpic hC1
  go_enter Tryd.func86, Tryd.ntmps86
  go_upto_region 1 with fail
  rw [HW0.out]
  go_wp2_with (first | (refine wpList_build_as rfl 96 _ rfl [(0, .int .i64 a), (1, .int .i64 b)] C0 rfl HBl.out ?_) | (refine wpList_store_new W0 rfl 96 _ _ rfl C0 rfl rfl 96 zeros HI1.out HI2.out HI3.out ?_))
  obtain ⟨m0, hm0⟩ : ∃ m0, W0.heap.size = m0 := ⟨_, rfl⟩
  obtain ⟨W1, hW1⟩ : ∃ W1, W0.alloc (.cells C0 96) = W1 := ⟨_, rfl⟩
  rw [hm0] at HS2 l0 ⊢
  rw [hW1] at HS2 HR2 HM2 HB2 ⊢
  clear hm0 hW1 c0 c1 cs
  go_loopw [12] (fun yv wr => ∃ y : Nat, y ≤ b ∧ yv = .int .i64 y ∧ wr.heap[w.heap.size]? = some (.cells M 113 (0, 0)) ∧ wr.heap[w.heap.size + 1]? = some (.cells #[.slice none 0 0] 42 (0, 0)) ∧ wr.heap[m0]? = some (.cells (mat a b (plP g a y)) 96 (0, 0)) ∧ Below w.heap.size w wr) (fun yv _ => b - (intOf yv).toNat)
  case atStart => exact ⟨0, Nat.zero_le _, rfl, HM2.out, HR2.out, by rw [plP_zero, HC0.out]; exact HS2.out, HB2.out⟩
  case round =>
    obtain ⟨y, hyl, rfl, hm, hr, hsh, hbel⟩ := hrel
    have M3 := Lib.hid hm
    have R3 := Lib.hid hr
    have S3 := Lib.hid hsh
    have B3 := Lib.hid hbel
    have l3 : m0 < wr.heap.size := (Array.getElem?_eq_some_iff.1 hsh).1
    clear hr hbel
    by_cases hlt : y < b
    · have kyb : (y : Int) < (b : Int) := by omega
      have ky : (y : Int) < 16 := by omega
      have ky4 : (y : Int) + 4 < 24 := by omega
      have k04 : (0 : Int) ≤ (y : Int) + 4 := by omega
      have kt4 : ((y : Int) + 4).toNat = y + 4 := by omega
      have kw4 : IntKind.i64.wrap ((y : Int) + 4) = (y : Int) + 4 := IntWalk.i64_in _ (by omega)
      have HST := Lib.hid (plP_step g a b y (by omega))
      have cq : wr.cell? ⟨w.heap.size, 2 + (y + 4), none⟩ = some (.int .u32 (g (y + 4))) := by
        rw [Joins.cell_of_block hm (2 + (y + 4)), ← HMM.out]; exact pl_word _ _ _ (y + 4) (by omega)
      have cw : wr.cell? ⟨m0, 0, none⟩ = some (.int .i64 a) := by rw [Joins.cell_of_block hsh 0]; rfl
      have fz : wr.frozen? ⟨m0, 2 + y, none⟩ = false := Joins.unfrozen_of_block hsh _
      have cy : wr.cell? ⟨m0, 2 + y, none⟩ = some (.int .u32 (plP g a y y)) := by
        rw [Joins.cell_of_block hsh (2 + y)]; exact mcells_word _ _ _ y (by omega)
      have KX := Lib.hid (KD.out (g (y + 4)) (hg (y + 4)))
      have hxe := HST.out
      rw [← KX.out] at hxe
      obtain ⟨G, hG⟩ : ∃ G, g (y + 4) = G := ⟨_, rfl⟩
      rw [hG] at cq hxe
      obtain ⟨k, hkk⟩ : ∃ k : Int, ((2 ^ a - 1 : Nat) : Int) = k := ⟨_, rfl⟩
      rw [hkk] at CMk hxe
      have HXe := Lib.hid hxe
      clear hsh hG hm hkk KX KD hk hk0 hxe
      go_wp2_with fail
--REGION
      refine wp_region_inv_at (by kernel_rfl) (fun A0 L A W => ∃ (b0 b1 b2 b3 b4 b5 b6 b7 b8 b9 b10 b11 b12 b13 : Bool) (v15 v16 v17 v18 v19 v20 v21 v22 v23 v24 v25 v26 v27 : Value), L = #[b0, b1, b2, b3, b4, b5, b6, b7, b8, b9, b10, b11, b12, b13] ∧ A = (((((((((((((A0.put (some 15) v15).put (some 16) v16).put (some 17) v17).put (some 18) v18).put (some 19) v19).put (some 20) v20).put (some 21) v21).put (some 22) v22).put (some 23) v23).put (some 24) v24).put (some 25) v25).put (some 26) v26).put (some 27) v27) ∧ (∃ Wp, Below wr.heap.size wr Wp ∧ W = (if b13 = true then Wp.setCell ⟨m0, 2 + y, none⟩ (.int .u32 (bits .and .u32 ((G : Int) / 16) k)) else Wp)) ∧ Hid (b0 = true → v15 = .int .i64 (y : Int)) ∧ Hid (b1 = true → v16 = .int .i64 (y : Int)) ∧ Hid (b2 = true → v17 = .int .i64 ((y : Int) + 4)) ∧ Hid (b3 = true → v18 = .pointer (some ⟨w.heap.size, 2, none⟩)) ∧ Hid (b4 = true → v19 = .pointer (some ⟨w.heap.size, 2 + (y + 4), none⟩)) ∧ Hid (b5 = true → v20 = .int .u32 (G : Int)) ∧ Hid (b6 = true → v21 = .int .u32 ((G : Int) / 16)) ∧ Hid (b7 = true → v22 = .pointer (some ⟨m0, 0, none⟩)) ∧ Hid (b8 = true → v23 = .int .i64 (a : Int)) ∧ Hid (b9 = true → v24 = .int .u32 k) ∧ Hid (b10 = true → v25 = .int .u32 (bits .and .u32 ((G : Int) / 16) k)) ∧ Hid (b11 = true → v26 = .pointer (some ⟨m0, 2, none⟩)) ∧ Hid (b12 = true → v27 = .pointer (some ⟨m0, 2 + y, none⟩)) ∧ Hid ((b0 = false → b13 = false) ∧ (b1 = false → b13 = false) ∧ (b2 = false → b13 = false) ∧ (b3 = false → b13 = false) ∧ (b4 = false → b13 = false) ∧ (b5 = false → b13 = false) ∧ (b6 = false → b13 = false) ∧ (b7 = false → b13 = false) ∧ (b8 = false → b13 = false) ∧ (b9 = false → b13 = false) ∧ (b10 = false → b13 = false) ∧ (b12 = false → b13 = false)) ∧ Hid (b12 = true → b11 = true)) ?_ ?_ ?_
      · intro A0
        refine ⟨false, false, false, false, false, false, false, false, false, false, false, false, false, false, A0.tmps.getD 15 undef, A0.tmps.getD 16 undef, A0.tmps.getD 17 undef, A0.tmps.getD 18 undef, A0.tmps.getD 19 undef, A0.tmps.getD 20 undef, A0.tmps.getD 21 undef, A0.tmps.getD 22 undef, A0.tmps.getD 23 undef, A0.tmps.getD 24 undef, A0.tmps.getD 25 undef, A0.tmps.getD 26 undef, A0.tmps.getD 27 undef, rfl, (by simp only [put_self]), ⟨_, (Below.refl _ _).drew, rfl⟩, Lib.hid (fun hf => by cases hf), Lib.hid (fun hf => by cases hf), Lib.hid (fun hf => by cases hf), Lib.hid (fun hf => by cases hf), Lib.hid (fun hf => by cases hf), Lib.hid (fun hf => by cases hf), Lib.hid (fun hf => by cases hf), Lib.hid (fun hf => by cases hf), Lib.hid (fun hf => by cases hf), Lib.hid (fun hf => by cases hf), Lib.hid (fun hf => by cases hf), Lib.hid (fun hf => by cases hf), Lib.hid (fun hf => by cases hf), Lib.hid ⟨fun _ => rfl, fun _ => rfl, fun _ => rfl, fun _ => rfl, fun _ => rfl, fun _ => rfl, fun _ => rfl, fun _ => rfl, fun _ => rfl, fun _ => rfl, fun _ => rfl, fun _ => rfl⟩, Lib.hid (fun hf => by cases hf)⟩
      · intro L A W hI i hi o ho K' hK
        have hlt := (ready_left hi).1
        have hun := (ready_left hi).2
        have haf := ready_after hi ho
        clear hi
        obtain ⟨b0, b1, b2, b3, b4, b5, b6, b7, b8, b9, b10, b11, b12, b13, v15, v16, v17, v18, v19, v20, v21, v22, v23, v24, v25, v26, v27, rfl, rfl, hB, h0, h1, h2, h3, h4, h5, h6, h7, h8, h9, h10, h11, h12, p, u12_11⟩ := hI
        have hc : i = 0 ∨ i = 1 ∨ i = 2 ∨ i = 3 ∨ i = 4 ∨ i = 5 ∨ i = 6 ∨ i = 7 ∨ i = 8 ∨ i = 9 ∨ i = 10 ∨ i = 11 ∨ i = 12 ∨ i = 13 := by
          simp at hlt
          omega
        rcases hc with rfl | rfl | rfl | rfl | rfl | rfl | rfl | rfl | rfl | rfl | rfl | rfl | rfl | rfl
        all_goals (obtain rfl := Option.some.inj ho; clear ho; simp [Region.binds] at haf hun; (try simp only [List.getElem_toArray, List.getElem_cons_zero, List.getElem_cons_succ]); simp only [Act.put, List.setIfInBounds_toArray, List.set_cons_zero, List.set_cons_succ])
        · -- operation 0
          replace hK := Lib.hid hK
          have hlast : b13 = false := p.out.1 hun
          subst hlast
          obtain ⟨Wp, hB, hWp⟩ := hB
          have hWq : W = Wp := by simpa using hWp
          clear hWp
          subst hWq
          have q0 := cell_kept hB cq
          have q1 := cell_kept hB cw
          have q2 := cell_kept hB cy
          have q3 : W.frozen? ⟨m0, 2 + y, none⟩ = false := Joins.unfrozen_of_block ((hB.block _ l3).trans S3.out) _
          subst hun
          go_simp
          exact hK.out _ _ ⟨true, b1, b2, b3, b4, b5, b6, b7, b8, b9, b10, b11, b12, false, .int .i64 (y : Int), v16, v17, v18, v19, v20, v21, v22, v23, v24, v25, v26, v27, rfl, (by simp only [Act.put, List.setIfInBounds_toArray, List.set_cons_zero, List.set_cons_succ]), ⟨_, hB, rfl⟩, Lib.hid (fun _ => rfl), h1, h2, h3, h4, h5, h6, h7, h8, h9, h10, h11, h12, Lib.hid ⟨(fun hf => by cases hf), (fun _ => rfl), (fun _ => rfl), (fun _ => rfl), (fun _ => rfl), (fun _ => rfl), (fun _ => rfl), (fun _ => rfl), (fun _ => rfl), (fun _ => rfl), (fun _ => rfl), (fun _ => rfl)⟩, u12_11⟩
        · -- operation 1
          replace hK := Lib.hid hK
          have hlast : b13 = false := p.out.2.1 hun
          subst hlast
          obtain ⟨Wp, hB, hWp⟩ := hB
          have hWq : W = Wp := by simpa using hWp
          clear hWp
          subst hWq
          have q0 := cell_kept hB cq
          have q1 := cell_kept hB cw
          have q2 := cell_kept hB cy
          have q3 : W.frozen? ⟨m0, 2 + y, none⟩ = false := Joins.unfrozen_of_block ((hB.block _ l3).trans S3.out) _
          subst hun
          go_simp
          exact hK.out _ _ ⟨b0, true, b2, b3, b4, b5, b6, b7, b8, b9, b10, b11, b12, false, v15, .int .i64 (y : Int), v17, v18, v19, v20, v21, v22, v23, v24, v25, v26, v27, rfl, (by simp only [Act.put, List.setIfInBounds_toArray, List.set_cons_zero, List.set_cons_succ]), ⟨_, hB, rfl⟩, h0, Lib.hid (fun _ => rfl), h2, h3, h4, h5, h6, h7, h8, h9, h10, h11, h12, Lib.hid ⟨(fun _ => rfl), (fun hf => by cases hf), (fun _ => rfl), (fun _ => rfl), (fun _ => rfl), (fun _ => rfl), (fun _ => rfl), (fun _ => rfl), (fun _ => rfl), (fun _ => rfl), (fun _ => rfl), (fun _ => rfl)⟩, u12_11⟩
        · -- operation 2
          replace hK := Lib.hid hK
          have hlast : b13 = false := p.out.2.2.1 hun
          subst hlast
          obtain ⟨Wp, hB, hWp⟩ := hB
          have hWq : W = Wp := by simpa using hWp
          clear hWp
          subst hWq
          have q0 := cell_kept hB cq
          have q1 := cell_kept hB cw
          have q2 := cell_kept hB cy
          have q3 : W.frozen? ⟨m0, 2 + y, none⟩ = false := Joins.unfrozen_of_block ((hB.block _ l3).trans S3.out) _
          obtain rfl := h1.out (by simp only [haf])
          subst hun
          go_simp
          exact hK.out _ _ ⟨b0, b1, true, b3, b4, b5, b6, b7, b8, b9, b10, b11, b12, false, v15, .int .i64 (y : Int), .int .i64 ((y : Int) + 4), v18, v19, v20, v21, v22, v23, v24, v25, v26, v27, rfl, (by simp only [Act.put, List.setIfInBounds_toArray, List.set_cons_zero, List.set_cons_succ]), ⟨_, hB, rfl⟩, h0, Lib.hid (fun _ => rfl), Lib.hid (fun _ => rfl), h3, h4, h5, h6, h7, h8, h9, h10, h11, h12, Lib.hid ⟨(fun _ => rfl), (fun _ => rfl), (fun hf => by cases hf), (fun _ => rfl), (fun _ => rfl), (fun _ => rfl), (fun _ => rfl), (fun _ => rfl), (fun _ => rfl), (fun _ => rfl), (fun _ => rfl), (fun _ => rfl)⟩, u12_11⟩
        · -- operation 3
          replace hK := Lib.hid hK
          have hlast : b13 = false := p.out.2.2.2.1 hun
          subst hlast
          obtain ⟨Wp, hB, hWp⟩ := hB
          have hWq : W = Wp := by simpa using hWp
          clear hWp
          subst hWq
          have q0 := cell_kept hB cq
          have q1 := cell_kept hB cw
          have q2 := cell_kept hB cy
          have q3 : W.frozen? ⟨m0, 2 + y, none⟩ = false := Joins.unfrozen_of_block ((hB.block _ l3).trans S3.out) _
          subst hun
          go_simp
          exact hK.out _ _ ⟨b0, b1, b2, true, b4, b5, b6, b7, b8, b9, b10, b11, b12, false, v15, v16, v17, .pointer (some ⟨w.heap.size, 2, none⟩), v19, v20, v21, v22, v23, v24, v25, v26, v27, rfl, (by simp only [Act.put, List.setIfInBounds_toArray, List.set_cons_zero, List.set_cons_succ]), ⟨_, hB, rfl⟩, h0, h1, h2, Lib.hid (fun _ => rfl), h4, h5, h6, h7, h8, h9, h10, h11, h12, Lib.hid ⟨(fun _ => rfl), (fun _ => rfl), (fun _ => rfl), (fun hf => by cases hf), (fun _ => rfl), (fun _ => rfl), (fun _ => rfl), (fun _ => rfl), (fun _ => rfl), (fun _ => rfl), (fun _ => rfl), (fun _ => rfl)⟩, u12_11⟩
        · -- operation 4
          replace hK := Lib.hid hK
          have hlast : b13 = false := p.out.2.2.2.2.1 hun
          subst hlast
          obtain ⟨Wp, hB, hWp⟩ := hB
          have hWq : W = Wp := by simpa using hWp
          clear hWp
          subst hWq
          have q0 := cell_kept hB cq
          have q1 := cell_kept hB cw
          have q2 := cell_kept hB cy
          have q3 : W.frozen? ⟨m0, 2 + y, none⟩ = false := Joins.unfrozen_of_block ((hB.block _ l3).trans S3.out) _
          obtain rfl := h2.out (by simp only [haf])
          obtain rfl := h3.out (by simp only [haf])
          subst hun
          go_simp
          exact hK.out _ _ ⟨b0, b1, b2, b3, true, b5, b6, b7, b8, b9, b10, b11, b12, false, v15, v16, .int .i64 ((y : Int) + 4), .pointer (some ⟨w.heap.size, 2, none⟩), .pointer (some ⟨w.heap.size, 2 + (y + 4), none⟩), v20, v21, v22, v23, v24, v25, v26, v27, rfl, (by simp only [Act.put, List.setIfInBounds_toArray, List.set_cons_zero, List.set_cons_succ]), ⟨_, hB, rfl⟩, h0, h1, Lib.hid (fun _ => rfl), Lib.hid (fun _ => rfl), Lib.hid (fun _ => rfl), h5, h6, h7, h8, h9, h10, h11, h12, Lib.hid ⟨(fun _ => rfl), (fun _ => rfl), (fun _ => rfl), (fun _ => rfl), (fun hf => by cases hf), (fun _ => rfl), (fun _ => rfl), (fun _ => rfl), (fun _ => rfl), (fun _ => rfl), (fun _ => rfl), (fun _ => rfl)⟩, u12_11⟩
        · -- operation 5
          replace hK := Lib.hid hK
          have hlast : b13 = false := p.out.2.2.2.2.2.1 hun
          subst hlast
          obtain ⟨Wp, hB, hWp⟩ := hB
          have hWq : W = Wp := by simpa using hWp
          clear hWp
          subst hWq
          have q0 := cell_kept hB cq
          have q1 := cell_kept hB cw
          have q2 := cell_kept hB cy
          have q3 : W.frozen? ⟨m0, 2 + y, none⟩ = false := Joins.unfrozen_of_block ((hB.block _ l3).trans S3.out) _
          obtain rfl := h4.out (by simp only [haf])
          subst hun
          go_simp
          exact hK.out _ _ ⟨b0, b1, b2, b3, b4, true, b6, b7, b8, b9, b10, b11, b12, false, v15, v16, v17, v18, .pointer (some ⟨w.heap.size, 2 + (y + 4), none⟩), .int .u32 (G : Int), v21, v22, v23, v24, v25, v26, v27, rfl, (by simp only [Act.put, List.setIfInBounds_toArray, List.set_cons_zero, List.set_cons_succ]), ⟨_, hB, rfl⟩, h0, h1, h2, h3, Lib.hid (fun _ => rfl), Lib.hid (fun _ => rfl), h6, h7, h8, h9, h10, h11, h12, Lib.hid ⟨(fun _ => rfl), (fun _ => rfl), (fun _ => rfl), (fun _ => rfl), (fun _ => rfl), (fun hf => by cases hf), (fun _ => rfl), (fun _ => rfl), (fun _ => rfl), (fun _ => rfl), (fun _ => rfl), (fun _ => rfl)⟩, u12_11⟩
        · -- operation 6
          replace hK := Lib.hid hK
          have hlast : b13 = false := p.out.2.2.2.2.2.2.1 hun
          subst hlast
          obtain ⟨Wp, hB, hWp⟩ := hB
          have hWq : W = Wp := by simpa using hWp
          clear hWp
          subst hWq
          have q0 := cell_kept hB cq
          have q1 := cell_kept hB cw
          have q2 := cell_kept hB cy
          have q3 : W.frozen? ⟨m0, 2 + y, none⟩ = false := Joins.unfrozen_of_block ((hB.block _ l3).trans S3.out) _
          obtain rfl := h5.out (by simp only [haf])
          subst hun
          go_simp
          exact hK.out _ _ ⟨b0, b1, b2, b3, b4, b5, true, b7, b8, b9, b10, b11, b12, false, v15, v16, v17, v18, v19, .int .u32 (G : Int), .int .u32 ((G : Int) / 16), v22, v23, v24, v25, v26, v27, rfl, (by simp only [Act.put, List.setIfInBounds_toArray, List.set_cons_zero, List.set_cons_succ]), ⟨_, hB, rfl⟩, h0, h1, h2, h3, h4, Lib.hid (fun _ => rfl), Lib.hid (fun _ => rfl), h7, h8, h9, h10, h11, h12, Lib.hid ⟨(fun _ => rfl), (fun _ => rfl), (fun _ => rfl), (fun _ => rfl), (fun _ => rfl), (fun _ => rfl), (fun hf => by cases hf), (fun _ => rfl), (fun _ => rfl), (fun _ => rfl), (fun _ => rfl), (fun _ => rfl)⟩, u12_11⟩
        · -- operation 7
          replace hK := Lib.hid hK
          have hlast : b13 = false := p.out.2.2.2.2.2.2.2.1 hun
          subst hlast
          obtain ⟨Wp, hB, hWp⟩ := hB
          have hWq : W = Wp := by simpa using hWp
          clear hWp
          subst hWq
          have q0 := cell_kept hB cq
          have q1 := cell_kept hB cw
          have q2 := cell_kept hB cy
          have q3 : W.frozen? ⟨m0, 2 + y, none⟩ = false := Joins.unfrozen_of_block ((hB.block _ l3).trans S3.out) _
          subst hun
          go_simp
          exact hK.out _ _ ⟨b0, b1, b2, b3, b4, b5, b6, true, b8, b9, b10, b11, b12, false, v15, v16, v17, v18, v19, v20, v21, .pointer (some ⟨m0, 0, none⟩), v23, v24, v25, v26, v27, rfl, (by simp only [Act.put, List.setIfInBounds_toArray, List.set_cons_zero, List.set_cons_succ]), ⟨_, hB, rfl⟩, h0, h1, h2, h3, h4, h5, h6, Lib.hid (fun _ => rfl), h8, h9, h10, h11, h12, Lib.hid ⟨(fun _ => rfl), (fun _ => rfl), (fun _ => rfl), (fun _ => rfl), (fun _ => rfl), (fun _ => rfl), (fun _ => rfl), (fun hf => by cases hf), (fun _ => rfl), (fun _ => rfl), (fun _ => rfl), (fun _ => rfl)⟩, u12_11⟩
        · -- operation 8
          replace hK := Lib.hid hK
          have hlast : b13 = false := p.out.2.2.2.2.2.2.2.2.1 hun
          subst hlast
          obtain ⟨Wp, hB, hWp⟩ := hB
          have hWq : W = Wp := by simpa using hWp
          clear hWp
          subst hWq
          have q0 := cell_kept hB cq
          have q1 := cell_kept hB cw
          have q2 := cell_kept hB cy
          have q3 : W.frozen? ⟨m0, 2 + y, none⟩ = false := Joins.unfrozen_of_block ((hB.block _ l3).trans S3.out) _
          obtain rfl := h7.out (by simp only [haf])
          subst hun
          go_simp
          exact hK.out _ _ ⟨b0, b1, b2, b3, b4, b5, b6, b7, true, b9, b10, b11, b12, false, v15, v16, v17, v18, v19, v20, v21, .pointer (some ⟨m0, 0, none⟩), .int .i64 (a : Int), v24, v25, v26, v27, rfl, (by simp only [Act.put, List.setIfInBounds_toArray, List.set_cons_zero, List.set_cons_succ]), ⟨_, hB, rfl⟩, h0, h1, h2, h3, h4, h5, h6, Lib.hid (fun _ => rfl), Lib.hid (fun _ => rfl), h9, h10, h11, h12, Lib.hid ⟨(fun _ => rfl), (fun _ => rfl), (fun _ => rfl), (fun _ => rfl), (fun _ => rfl), (fun _ => rfl), (fun _ => rfl), (fun _ => rfl), (fun hf => by cases hf), (fun _ => rfl), (fun _ => rfl), (fun _ => rfl)⟩, u12_11⟩
        · -- operation 9
          replace hK := Lib.hid hK
          have hlast : b13 = false := p.out.2.2.2.2.2.2.2.2.2.1 hun
          subst hlast
          obtain ⟨Wp, hB, hWp⟩ := hB
          have hWq : W = Wp := by simpa using hWp
          clear hWp
          subst hWq
          have q0 := cell_kept hB cq
          have q1 := cell_kept hB cw
          have q2 := cell_kept hB cy
          have q3 : W.frozen? ⟨m0, 2 + y, none⟩ = false := Joins.unfrozen_of_block ((hB.block _ l3).trans S3.out) _
          obtain rfl := h8.out (by simp only [haf])
          subst hun
          go_simp
          refine (CMk.out _).mono ?_
          rintro e W' ⟨rfl, rfl⟩
          have hb := Below.refl W.heap.size W
          have hkept := fun kb (hk : kb < W.heap.size) => hb.block kb hk
          exact hK.out _ _ ⟨b0, b1, b2, b3, b4, b5, b6, b7, b8, true, b10, b11, b12, false, v15, v16, v17, v18, v19, v20, v21, v22, .int .i64 (a : Int), .int .u32 k, v25, v26, v27, rfl, (by simp only [Act.put, List.setIfInBounds_toArray, List.set_cons_zero, List.set_cons_succ]), ⟨_, hB.trans (hb.mono hB.size), rfl⟩, h0, h1, h2, h3, h4, h5, h6, h7, Lib.hid (fun _ => rfl), Lib.hid (fun _ => rfl), h10, h11, h12, Lib.hid ⟨(fun _ => rfl), (fun _ => rfl), (fun _ => rfl), (fun _ => rfl), (fun _ => rfl), (fun _ => rfl), (fun _ => rfl), (fun _ => rfl), (fun _ => rfl), (fun hf => by cases hf), (fun _ => rfl), (fun _ => rfl)⟩, u12_11⟩
        · -- operation 10
          replace hK := Lib.hid hK
          have hlast : b13 = false := p.out.2.2.2.2.2.2.2.2.2.2.1 hun
          subst hlast
          obtain ⟨Wp, hB, hWp⟩ := hB
          have hWq : W = Wp := by simpa using hWp
          clear hWp
          subst hWq
          have q0 := cell_kept hB cq
          have q1 := cell_kept hB cw
          have q2 := cell_kept hB cy
          have q3 : W.frozen? ⟨m0, 2 + y, none⟩ = false := Joins.unfrozen_of_block ((hB.block _ l3).trans S3.out) _
          obtain rfl := h6.out (by simp only [haf])
          obtain rfl := h9.out (by simp only [haf])
          subst hun
          go_simp
          exact hK.out _ _ ⟨b0, b1, b2, b3, b4, b5, b6, b7, b8, b9, true, b11, b12, false, v15, v16, v17, v18, v19, v20, .int .u32 ((G : Int) / 16), v22, v23, .int .u32 k, .int .u32 (bits .and .u32 ((G : Int) / 16) k), v26, v27, rfl, (by simp only [Act.put, List.setIfInBounds_toArray, List.set_cons_zero, List.set_cons_succ]), ⟨_, hB, rfl⟩, h0, h1, h2, h3, h4, h5, Lib.hid (fun _ => rfl), h7, h8, Lib.hid (fun _ => rfl), Lib.hid (fun _ => rfl), h11, h12, Lib.hid ⟨(fun _ => rfl), (fun _ => rfl), (fun _ => rfl), (fun _ => rfl), (fun _ => rfl), (fun _ => rfl), (fun _ => rfl), (fun _ => rfl), (fun _ => rfl), (fun _ => rfl), (fun hf => by cases hf), (fun _ => rfl)⟩, u12_11⟩
        · -- operation 11
          replace hK := Lib.hid hK
          have hmid : b12 = false := by cases hb : b12 with | false => rfl | true => exact absurd (show true = false from (u12_11.out hb).symm.trans hun) (by decide)
          have hlast : b13 = false := p.out.2.2.2.2.2.2.2.2.2.2.2 hmid
          clear hmid
          subst hlast
          obtain ⟨Wp, hB, hWp⟩ := hB
          have hWq : W = Wp := by simpa using hWp
          clear hWp
          subst hWq
          have q0 := cell_kept hB cq
          have q1 := cell_kept hB cw
          have q2 := cell_kept hB cy
          have q3 : W.frozen? ⟨m0, 2 + y, none⟩ = false := Joins.unfrozen_of_block ((hB.block _ l3).trans S3.out) _
          subst hun
          go_simp
          exact hK.out _ _ ⟨b0, b1, b2, b3, b4, b5, b6, b7, b8, b9, b10, true, b12, false, v15, v16, v17, v18, v19, v20, v21, v22, v23, v24, v25, .pointer (some ⟨m0, 2, none⟩), v27, rfl, (by simp only [Act.put, List.setIfInBounds_toArray, List.set_cons_zero, List.set_cons_succ]), ⟨_, hB, rfl⟩, h0, h1, h2, h3, h4, h5, h6, h7, h8, h9, h10, Lib.hid (fun _ => rfl), h12, Lib.hid ⟨(fun _ => rfl), (fun _ => rfl), (fun _ => rfl), (fun _ => rfl), (fun _ => rfl), (fun _ => rfl), (fun _ => rfl), (fun _ => rfl), (fun _ => rfl), (fun _ => rfl), (fun _ => rfl), (fun _ => rfl)⟩, Lib.hid (fun _ => rfl)⟩
        · -- operation 12
          replace hK := Lib.hid hK
          have hlast : b13 = false := p.out.2.2.2.2.2.2.2.2.2.2.2 hun
          subst hlast
          obtain ⟨Wp, hB, hWp⟩ := hB
          have hWq : W = Wp := by simpa using hWp
          clear hWp
          subst hWq
          have q0 := cell_kept hB cq
          have q1 := cell_kept hB cw
          have q2 := cell_kept hB cy
          have q3 : W.frozen? ⟨m0, 2 + y, none⟩ = false := Joins.unfrozen_of_block ((hB.block _ l3).trans S3.out) _
          obtain rfl := h0.out (by simp only [haf])
          obtain rfl := h11.out (by simp only [haf])
          subst hun
          go_simp
          exact hK.out _ _ ⟨b0, b1, b2, b3, b4, b5, b6, b7, b8, b9, b10, b11, true, false, .int .i64 (y : Int), v16, v17, v18, v19, v20, v21, v22, v23, v24, v25, .pointer (some ⟨m0, 2, none⟩), .pointer (some ⟨m0, 2 + y, none⟩), rfl, (by simp only [Act.put, List.setIfInBounds_toArray, List.set_cons_zero, List.set_cons_succ]), ⟨_, hB, rfl⟩, Lib.hid (fun _ => rfl), h1, h2, h3, h4, h5, h6, h7, h8, h9, h10, Lib.hid (fun _ => rfl), Lib.hid (fun _ => rfl), Lib.hid ⟨(fun _ => rfl), (fun _ => rfl), (fun _ => rfl), (fun _ => rfl), (fun _ => rfl), (fun _ => rfl), (fun _ => rfl), (fun _ => rfl), (fun _ => rfl), (fun _ => rfl), (fun _ => rfl), (fun hf => by cases hf)⟩, Lib.hid (fun _ => (by simp only [haf]))⟩
        · -- operation 13
          replace hK := Lib.hid hK
          subst hun
          obtain ⟨Wp, hB, hWp⟩ := hB
          have hWq : W = Wp := by simpa using hWp
          clear hWp
          subst hWq
          have q0 := cell_kept hB cq
          have q1 := cell_kept hB cw
          have q2 := cell_kept hB cy
          have q3 : W.frozen? ⟨m0, 2 + y, none⟩ = false := Joins.unfrozen_of_block ((hB.block _ l3).trans S3.out) _
          obtain rfl := h10.out (by simp only [haf])
          obtain rfl := h12.out (by simp only [haf])
          go_simp
          exact hK.out _ _ ⟨b0, b1, b2, b3, b4, b5, b6, b7, b8, b9, b10, b11, b12, true, v15, v16, v17, v18, v19, v20, v21, v22, v23, v24, .int .u32 (bits .and .u32 ((G : Int) / 16) k), v26, .pointer (some ⟨m0, 2 + y, none⟩), rfl, (by simp only [Act.put, List.setIfInBounds_toArray, List.set_cons_zero, List.set_cons_succ]), ⟨_, hB, rfl⟩, h0, h1, h2, h3, h4, h5, h6, h7, h8, h9, Lib.hid (fun _ => rfl), h11, Lib.hid (fun _ => rfl), Lib.hid ⟨(fun hf => absurd (show false = true from hf.symm.trans (by simp only [haf])) (by decide)), (fun hf => absurd (show false = true from hf.symm.trans (by simp only [haf])) (by decide)), (fun hf => absurd (show false = true from hf.symm.trans (by simp only [haf])) (by decide)), (fun hf => absurd (show false = true from hf.symm.trans (by simp only [haf])) (by decide)), (fun hf => absurd (show false = true from hf.symm.trans (by simp only [haf])) (by decide)), (fun hf => absurd (show false = true from hf.symm.trans (by simp only [haf])) (by decide)), (fun hf => absurd (show false = true from hf.symm.trans (by simp only [haf])) (by decide)), (fun hf => absurd (show false = true from hf.symm.trans (by simp only [haf])) (by decide)), (fun hf => absurd (show false = true from hf.symm.trans (by simp only [haf])) (by decide)), (fun hf => absurd (show false = true from hf.symm.trans (by simp only [haf])) (by decide)), (fun hf => absurd (show false = true from hf.symm.trans (by simp only [haf])) (by decide)), (fun hf => absurd (show false = true from hf.symm.trans (by simp only [haf])) (by decide))⟩, u12_11⟩
      intro L A W hI hr
      obtain ⟨b0, b1, b2, b3, b4, b5, b6, b7, b8, b9, b10, b11, b12, b13, v15, v16, v17, v18, v19, v20, v21, v22, v23, v24, v25, v26, v27, rfl, rfl, hB, h0, h1, h2, h3, h4, h5, h6, h7, h8, h9, h10, h11, h12, p, u12_11⟩ := hI
      have d0 := ready_done hr 0 _ rfl (by simp [Region.binds])
      simp at d0
      subst d0
      have d1 := ready_done hr 1 _ rfl (by simp [Region.binds])
      simp at d1
      subst d1
      have d2 := ready_done hr 2 _ rfl (by simp [Region.binds])
      simp at d2
      subst d2
      have d3 := ready_done hr 3 _ rfl (by simp [Region.binds])
      simp at d3
      subst d3
      have d4 := ready_done hr 4 _ rfl (by simp [Region.binds])
      simp at d4
      subst d4
      have d5 := ready_done hr 5 _ rfl (by simp [Region.binds])
      simp at d5
      subst d5
      have d6 := ready_done hr 6 _ rfl (by simp [Region.binds])
      simp at d6
      subst d6
      have d7 := ready_done hr 7 _ rfl (by simp [Region.binds])
      simp at d7
      subst d7
      have d8 := ready_done hr 8 _ rfl (by simp [Region.binds])
      simp at d8
      subst d8
      have d9 := ready_done hr 9 _ rfl (by simp [Region.binds])
      simp at d9
      subst d9
      have d10 := ready_done hr 10 _ rfl (by simp [Region.binds])
      simp at d10
      subst d10
      have d11 := ready_done hr 11 _ rfl (by simp [Region.binds])
      simp at d11
      subst d11
      have d12 := ready_done hr 12 _ rfl (by simp [Region.binds])
      simp at d12
      subst d12
      have d13 := ready_done hr 13 _ rfl (by simp [Region.binds])
      simp at d13
      subst d13
      obtain rfl := h0.out rfl
      obtain rfl := h1.out rfl
      obtain rfl := h2.out rfl
      obtain rfl := h3.out rfl
      obtain rfl := h4.out rfl
      obtain rfl := h5.out rfl
      obtain rfl := h6.out rfl
      obtain rfl := h7.out rfl
      obtain rfl := h8.out rfl
      obtain rfl := h9.out rfl
      obtain rfl := h10.out rfl
      obtain rfl := h11.out rfl
      obtain rfl := h12.out rfl
      obtain ⟨Wp, hB, hWp⟩ := hB
      have hWq : W = Wp.setCell ⟨m0, 2 + y, none⟩ (.int .u32 (bits .and .u32 ((G : Int) / 16) k)) := by simpa using hWp
      clear hWp
      subst hWq
      simp only [Act.put, List.setIfInBounds_toArray, List.set_cons_zero, List.set_cons_succ]
      clear hr h0 h1 h2 h3 h4 h5 h6 h7 h8 h9 h10 h11 h12 p u12_11
      have HBp := Lib.hid (B3.out.trans (hB.mono B3.out.size))
      have HMp := Lib.hid ((hB.block _ (Nat.lt_trans (by omega) l3)).trans M3.out)
      have HRp := Lib.hid ((hB.block _ (Nat.lt_trans (by omega) l3)).trans R3.out)
      have HSp := Lib.hid ((hB.block _ l3).trans S3.out)
      clear hB
--ENDREGION
      have HX := Lib.hid (Lib.heap_setCell_same (i := 2 + y) HSp.out (.int .u32 (bits .and .u32 ((G : Int) / 16) k)))
      rw [HXe.out] at HX
      go_wp2
      go_roundw
      case rel => exact ⟨y + 1, by omega, by go_num, (Below.heap_setCell _ _ _ _ (by simp; omega)).trans HMp.out, (Below.heap_setCell _ _ _ _ (by simp; omega)).trans HRp.out, HX.out, HBp.out.setCell (p := ⟨m0, 2 + y, none⟩) (by show w.heap.size ≤ m0; omega) _⟩
      case measure => simp [intOf]; omega
    · obtain rfl : y = b := by omega
      rw [HP2.out] at S3
      clear hm hsh
      have r3c := cell_of_one R3.out
      have r3f := free_of_one R3.out
      go_wp2_with (first | (refine wpList_load_row rfl 96 _ rfl m0 rfl 96 P2 (0, 0) _ S3.out Tryd.underlying96 rfl HI4.out ?_))
      refine (CP.out _).mono ?_
      rintro e w2 ⟨g2, cap2, rfl, hown, hb2⟩
      have R5 := (hb2.block _ (Array.getElem?_eq_some_iff.1 R3.out).1).trans R3.out
      have r5c := cell_of_one R5
      have r5f := free_of_one R5
      have HO : Hid (OwnP w2 w.heap.size (.slice (some ⟨g2, 0, none⟩) pic.length cap2) pic) := Joins.ownsRow_le hown B3.out.size
      have HR5 := Lib.hid R5
      have HB5 := Lib.hid (B3.out.trans (hb2.mono B3.out.size))
      clear hown hb2 R5 r3c r3f
      go_wp2
      refine bodyPost_ret (results_cell1 (p := 2) (ty := 42) Tryd.results86 _ _ (w.heap.size + 1) 42 #[.slice (some ⟨g2, 0, none⟩) pic.length cap2] (0, 0) _ rfl (one_setCell HR5.out) Tryd.underlying42 rfl infoPi1) rfl ⟨g2, cap2, rfl, own_set HO.out HR5.out (by decide), HB5.out.setCell (p := ⟨w.heap.size + 1, 0, none⟩) (by simp) _⟩
end Go.Proofs.YtabkkpifkkgpeaaDoor
