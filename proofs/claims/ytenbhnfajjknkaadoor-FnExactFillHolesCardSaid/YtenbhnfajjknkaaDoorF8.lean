/- Contracts of single functions, and plain lemmas, on which the exact laws of this seat rest; each holds under the conditions that it states. -/
import Derived.Test.YtenbhnfajjknkaaDoorL7
import Derived.Test.YtenbhnfajjknkaaDoorL5
import Derived.Test.YtenbhnfajjknkaaDoorRI
namespace Go.Proofs.YtenbhnfajjknkaaDoor
set_option linter.unusedVariables false
set_option linter.unusedSimpArgs false
open Go.RowKit
attribute [local go_sem] Oper.semAt_some

/-! ### a plane inverted -/
def ivG (g : Nat → Nat) (Y j : Nat) : Nat := if j < Y then g j ^^^ 16777215 else g j
theorem ivG_step (g : Nat → Nat) (a b y : Nat) (hy : y < 24) : (pl a b (ivG g y)).setIfInBounds (2 + y) (.int .u32 ((g y ^^^ 16777215 : Nat) : Int)) = pl a b (ivG g (y + 1)) := by
  rw [pl_put a b _ y hy]
  refine pl_congr a b (fun j hj => ?_)
  unfold ivG
  by_cases e : j = y
  · subst e
    rw [if_pos rfl, if_pos (by omega)]
  · rw [if_neg e]
    by_cases h2 : j < y
    · rw [if_pos h2, if_pos (by omega)]
    · rw [if_neg h2, if_neg (by omega)]
theorem ivG_plw (g : Nat → Nat) (hg : PlW g) (Y : Nat) : PlW (ivG g Y) := fun j => by
  unfold ivG
  split
  · exact Nat.xor_lt_two_pow (n := 24) (hg j) (by decide)
  · exact hg j
theorem iv_pix (g : Nat → Nat) (X Y : Int) (hi : inPl X Y = true) : plF (ivG g 24) X Y = !plF g X Y := by
  unfold inPl at hi
  have h := of_decide_eq_true hi
  have h1 : (Y + 4).toNat < 24 := by omega
  have h2 : (X + 4).toNat < 24 := by omega
  unfold plF ivG
  rw [if_pos h1, Nat.testBit_xor, show (16777215 : Nat) = 2 ^ 24 - 1 from rfl, Nat.testBit_two_pow_sub_one, decide_eq_true h2]
  rw [show inPl X Y = true from hi]
  simp

set_option maxHeartbeats 4000000 in
set_option maxRecDepth 100000 in
theorem inverted_any (a b : Nat) (g : Nat → Nat) (w : World) (hg : PlW g) :
    Calls Tryd.prog 79 #[.agg (pl a b g)] w fun e w' => e = .returned (.agg (pl a b (ivG g 24))) ∧ Below w.heap.size w w' := by
  obtain ⟨P2, hP2⟩ : ∃ P2, pl a b (ivG g 24) = P2 := ⟨_, rfl⟩
  have HP2 := Lib.hid hP2
  have HI4 : Hid ((Tryd.prog.info? 68).map (·.size) = some P2.size) := by show _ = _; rw [← hP2]; exact infoPl
  have HI5 : Hid (zerosP.size = P2.size) := by show _ = _; rw [← hP2]; rfl
  have HI6 : Hid (P2.all (·.oneCell') = true) := by show _ = _; rw [← hP2]; exact pl_one _ _ _
  obtain ⟨M, hM⟩ : ∃ M, pl a b g = M := ⟨_, rfl⟩
  have h0 : pl a b (ivG g 0) = M := by rw [← hM]; exact pl_congr a b (fun j _ => by unfold ivG; rw [if_neg (by omega)])
  have H0 := Lib.hid h0
  rw [hP2, hM]
  obtain ⟨W0, hW0⟩ : ∃ W0, (w.alloc (.cells M 68)).alloc (.cells #[.int .i64 0, .int .i64 0, .int .u32 0, .int .u32 0, .int .u32 0, .int .u32 0, .int .u32 0, .int .u32 0, .int .u32 0, .int .u32 0, .int .u32 0, .int .u32 0, .int .u32 0, .int .u32 0, .int .u32 0, .int .u32 0, .int .u32 0, .int .u32 0, .int .u32 0, .int .u32 0, .int .u32 0, .int .u32 0, .int .u32 0, .int .u32 0, .int .u32 0, .int .u32 0] 68) = W0 := ⟨_, rfl⟩
  have hz : zerosP = #[.int .i64 0, .int .i64 0, .int .u32 0, .int .u32 0, .int .u32 0, .int .u32 0, .int .u32 0, .int .u32 0, .int .u32 0, .int .u32 0, .int .u32 0, .int .u32 0, .int .u32 0, .int .u32 0, .int .u32 0, .int .u32 0, .int .u32 0, .int .u32 0, .int .u32 0, .int .u32 0, .int .u32 0, .int .u32 0, .int .u32 0, .int .u32 0, .int .u32 0, .int .u32 0] := rfl
  have hb0 : Below w.heap.size w W0 := by rw [← hW0]; exact Joins.below_alloc2 _ _ _
  have hq0 : W0.heap[w.heap.size]? = some (.cells M 68 (0, 0)) := by
    rw [← hW0, Below.heap_alloc _ _ _ (by simp)]; exact heap_alloc_last w _
  have hr0 : W0.heap[w.heap.size + 1]? = some (.cells zerosP 68 (0, 0)) := by
    rw [← hW0, hz]
    exact heap_alloc2_new _ _ _
  have HW0 := Lib.hid hW0
  have HM2 := Lib.hid hq0
  have HR2 := Lib.hid hr0
  have HB2 := Lib.hid hb0
  have HG := Lib.hid hg
  clear hP2 hM h0 hW0 hz hb0 hq0 hr0 hg
  go_enter Tryd.func79, Tryd.ntmps79
  go_upto_region 1 with fail
  rw [HW0.out]
  go_wp2_with fail
  go_loopw [4] (fun yv wr => ∃ y : Nat, y ≤ 24 ∧ yv = .int .i64 y ∧ wr.heap[w.heap.size + 1]? = some (.cells zerosP 68 (0, 0)) ∧ wr.heap[w.heap.size]? = some (.cells (pl a b (ivG g y)) 68 (0, 0)) ∧ Below w.heap.size w wr) (fun yv _ => 24 - (intOf yv).toNat)
  case atStart => exact ⟨0, Nat.zero_le _, rfl, HR2.out, by rw [H0.out]; exact HM2.out, HB2.out⟩
  case round =>
    obtain ⟨y, hyl, rfl, hr, hsh, hbel⟩ := hrel
    have R3 := Lib.hid hr
    have S3 := Lib.hid hsh
    have B3 := Lib.hid hbel
    have l3 : w.heap.size < wr.heap.size := (Array.getElem?_eq_some_iff.1 hsh).1
    have lr : w.heap.size + 1 < wr.heap.size := (Array.getElem?_eq_some_iff.1 hr).1
    clear hr hbel
    by_cases hlt : y < 24
    · have ky : (y : Int) < 24 := by omega
      have HST := Lib.hid (ivG_step g a b y hlt)
      have cy : wr.cell? ⟨w.heap.size, 2 + y, none⟩ = some (.int .u32 (g y)) := by
        rw [Joins.cell_of_block hsh (2 + y), pl_word _ _ _ y hlt]
        unfold ivG
        rw [if_neg (by omega)]
      have hxe := HST.out
      rw [← u32_xor_nat (g y) 16777215 (Nat.lt_trans (HG.out y) (by decide)) (by decide)] at hxe
      obtain ⟨G, hG⟩ : ∃ G, g y = G := ⟨_, rfl⟩
      rw [hG] at cy hxe
      have HXe : Hid ((pl a b (ivG g y)).setIfInBounds (2 + y) (.int .u32 (bits .xor .u32 (G : Int) 16777215)) = pl a b (ivG g (y + 1))) := hxe
      clear hsh hG HST hxe
      go_upto_region 4 with fail
      refine wp_region_inv_at (by kernel_rfl) (fun A0 L A W => ∃ (b0 b1 b2 b3 b4 b5 b6 b7 b8 : Bool) (v7 v8 v9 v10 v11 v12 v13 v14 : Value), L = #[b0, b1, b2, b3, b4, b5, b6, b7, b8] ∧ A = ((((((((A0.put (some 7) v7).put (some 8) v8).put (some 9) v9).put (some 10) v10).put (some 11) v11).put (some 12) v12).put (some 13) v13).put (some 14) v14) ∧ (∃ Wp, Below wr.heap.size wr Wp ∧ W = (if b8 = true then Wp.setCell ⟨w.heap.size, 2 + y, none⟩ (.int .u32 (bits .xor .u32 (G : Int) 16777215)) else Wp)) ∧ Hid (b0 = true → v7 = .int .i64 (y : Int)) ∧ Hid (b1 = true → v8 = .pointer (some ⟨w.heap.size, 2, none⟩)) ∧ Hid (b2 = true → v9 = .pointer (some ⟨w.heap.size, 2 + y, none⟩)) ∧ Hid (b3 = true → v10 = .int .u32 (G : Int)) ∧ Hid (b4 = true → v11 = .int .u32 16777215) ∧ Hid (b5 = true → v12 = .int .u32 (bits .xor .u32 (G : Int) 16777215)) ∧ Hid (b6 = true → v13 = .pointer (some ⟨w.heap.size, 2, none⟩)) ∧ Hid (b7 = true → v14 = .pointer (some ⟨w.heap.size, 2 + y, none⟩)) ∧ Hid ((b0 = false → b8 = false) ∧ (b1 = false → b8 = false) ∧ (b2 = false → b8 = false) ∧ (b3 = false → b8 = false) ∧ (b4 = false → b8 = false) ∧ (b5 = false → b8 = false) ∧ (b7 = false → b8 = false)) ∧ Hid (b7 = true → b6 = true)) ?_ ?_ ?_
      · intro A0
        refine ⟨false, false, false, false, false, false, false, false, false, A0.tmps.getD 7 undef, A0.tmps.getD 8 undef, A0.tmps.getD 9 undef, A0.tmps.getD 10 undef, A0.tmps.getD 11 undef, A0.tmps.getD 12 undef, A0.tmps.getD 13 undef, A0.tmps.getD 14 undef, rfl, (by simp only [put_self]), ⟨_, (Below.refl _ _).drew, rfl⟩, Lib.hid (fun hf => by cases hf), Lib.hid (fun hf => by cases hf), Lib.hid (fun hf => by cases hf), Lib.hid (fun hf => by cases hf), Lib.hid (fun hf => by cases hf), Lib.hid (fun hf => by cases hf), Lib.hid (fun hf => by cases hf), Lib.hid (fun hf => by cases hf), Lib.hid ⟨fun _ => rfl, fun _ => rfl, fun _ => rfl, fun _ => rfl, fun _ => rfl, fun _ => rfl, fun _ => rfl⟩, Lib.hid (fun hf => by cases hf)⟩
      · intro L A W hI i hi o ho K' hK
        have hlt := (ready_left hi).1
        have hun := (ready_left hi).2
        have haf := ready_after hi ho
        clear hi
        obtain ⟨b0, b1, b2, b3, b4, b5, b6, b7, b8, v7, v8, v9, v10, v11, v12, v13, v14, rfl, rfl, hB, h0, h1, h2, h3, h4, h5, h6, h7, p, u7_6⟩ := hI
        have hc : i = 0 ∨ i = 1 ∨ i = 2 ∨ i = 3 ∨ i = 4 ∨ i = 5 ∨ i = 6 ∨ i = 7 ∨ i = 8 := by
          simp at hlt
          omega
        rcases hc with rfl | rfl | rfl | rfl | rfl | rfl | rfl | rfl | rfl
        all_goals (obtain rfl := Option.some.inj ho; clear ho; simp [Region.binds] at haf hun; (try simp only [List.getElem_toArray, List.getElem_cons_zero, List.getElem_cons_succ]); simp only [Act.put, List.setIfInBounds_toArray, List.set_cons_zero, List.set_cons_succ])
        · -- operation 0
          replace hK := Lib.hid hK
          have hlast : b8 = false := p.out.1 hun
          subst hlast
          obtain ⟨Wp, hB, hWp⟩ := hB
          have hWq : W = Wp := by simpa using hWp
          clear hWp
          subst hWq
          have q2 := cell_kept hB cy
          have q3 : W.frozen? ⟨w.heap.size, 2 + y, none⟩ = false := Joins.unfrozen_of_block ((hB.block _ l3).trans S3.out) _
          subst hun
          go_simp
          exact hK.out _ _ ⟨true, b1, b2, b3, b4, b5, b6, b7, false, .int .i64 (y : Int), v8, v9, v10, v11, v12, v13, v14, rfl, (by simp only [Act.put, List.setIfInBounds_toArray, List.set_cons_zero, List.set_cons_succ]), ⟨_, hB, rfl⟩, Lib.hid (fun _ => rfl), h1, h2, h3, h4, h5, h6, h7, Lib.hid ⟨(fun hf => by cases hf), (fun _ => rfl), (fun _ => rfl), (fun _ => rfl), (fun _ => rfl), (fun _ => rfl), (fun _ => rfl)⟩, u7_6⟩
        · -- operation 1
          replace hK := Lib.hid hK
          have hlast : b8 = false := p.out.2.1 hun
          subst hlast
          obtain ⟨Wp, hB, hWp⟩ := hB
          have hWq : W = Wp := by simpa using hWp
          clear hWp
          subst hWq
          have q2 := cell_kept hB cy
          have q3 : W.frozen? ⟨w.heap.size, 2 + y, none⟩ = false := Joins.unfrozen_of_block ((hB.block _ l3).trans S3.out) _
          subst hun
          go_simp
          exact hK.out _ _ ⟨b0, true, b2, b3, b4, b5, b6, b7, false, v7, .pointer (some ⟨w.heap.size, 2, none⟩), v9, v10, v11, v12, v13, v14, rfl, (by simp only [Act.put, List.setIfInBounds_toArray, List.set_cons_zero, List.set_cons_succ]), ⟨_, hB, rfl⟩, h0, Lib.hid (fun _ => rfl), h2, h3, h4, h5, h6, h7, Lib.hid ⟨(fun _ => rfl), (fun hf => by cases hf), (fun _ => rfl), (fun _ => rfl), (fun _ => rfl), (fun _ => rfl), (fun _ => rfl)⟩, u7_6⟩
        · -- operation 2
          replace hK := Lib.hid hK
          have hlast : b8 = false := p.out.2.2.1 hun
          subst hlast
          obtain ⟨Wp, hB, hWp⟩ := hB
          have hWq : W = Wp := by simpa using hWp
          clear hWp
          subst hWq
          have q2 := cell_kept hB cy
          have q3 : W.frozen? ⟨w.heap.size, 2 + y, none⟩ = false := Joins.unfrozen_of_block ((hB.block _ l3).trans S3.out) _
          obtain rfl := h0.out (by simp only [haf])
          obtain rfl := h1.out (by simp only [haf])
          subst hun
          go_simp
          exact hK.out _ _ ⟨b0, b1, true, b3, b4, b5, b6, b7, false, .int .i64 (y : Int), .pointer (some ⟨w.heap.size, 2, none⟩), .pointer (some ⟨w.heap.size, 2 + y, none⟩), v10, v11, v12, v13, v14, rfl, (by simp only [Act.put, List.setIfInBounds_toArray, List.set_cons_zero, List.set_cons_succ]), ⟨_, hB, rfl⟩, Lib.hid (fun _ => rfl), Lib.hid (fun _ => rfl), Lib.hid (fun _ => rfl), h3, h4, h5, h6, h7, Lib.hid ⟨(fun _ => rfl), (fun _ => rfl), (fun hf => by cases hf), (fun _ => rfl), (fun _ => rfl), (fun _ => rfl), (fun _ => rfl)⟩, u7_6⟩
        · -- operation 3
          replace hK := Lib.hid hK
          have hlast : b8 = false := p.out.2.2.2.1 hun
          subst hlast
          obtain ⟨Wp, hB, hWp⟩ := hB
          have hWq : W = Wp := by simpa using hWp
          clear hWp
          subst hWq
          have q2 := cell_kept hB cy
          have q3 : W.frozen? ⟨w.heap.size, 2 + y, none⟩ = false := Joins.unfrozen_of_block ((hB.block _ l3).trans S3.out) _
          obtain rfl := h2.out (by simp only [haf])
          subst hun
          go_simp
          exact hK.out _ _ ⟨b0, b1, b2, true, b4, b5, b6, b7, false, v7, v8, .pointer (some ⟨w.heap.size, 2 + y, none⟩), .int .u32 (G : Int), v11, v12, v13, v14, rfl, (by simp only [Act.put, List.setIfInBounds_toArray, List.set_cons_zero, List.set_cons_succ]), ⟨_, hB, rfl⟩, h0, h1, Lib.hid (fun _ => rfl), Lib.hid (fun _ => rfl), h4, h5, h6, h7, Lib.hid ⟨(fun _ => rfl), (fun _ => rfl), (fun _ => rfl), (fun hf => by cases hf), (fun _ => rfl), (fun _ => rfl), (fun _ => rfl)⟩, u7_6⟩
        · -- operation 4
          replace hK := Lib.hid hK
          have hlast : b8 = false := p.out.2.2.2.2.1 hun
          subst hlast
          obtain ⟨Wp, hB, hWp⟩ := hB
          have hWq : W = Wp := by simpa using hWp
          clear hWp
          subst hWq
          have q2 := cell_kept hB cy
          have q3 : W.frozen? ⟨w.heap.size, 2 + y, none⟩ = false := Joins.unfrozen_of_block ((hB.block _ l3).trans S3.out) _
          subst hun
          go_simp
          refine (mask24_any _).mono ?_
          rintro e W' ⟨rfl, rfl⟩
          have hb := Below.refl W.heap.size W
          have hkept := fun kb (hk : kb < W.heap.size) => hb.block kb hk
          exact hK.out _ _ ⟨b0, b1, b2, b3, true, b5, b6, b7, false, v7, v8, v9, v10, .int .u32 16777215, v12, v13, v14, rfl, (by simp only [Act.put, List.setIfInBounds_toArray, List.set_cons_zero, List.set_cons_succ]), ⟨_, hB.trans (hb.mono hB.size), rfl⟩, h0, h1, h2, h3, Lib.hid (fun _ => rfl), h5, h6, h7, Lib.hid ⟨(fun _ => rfl), (fun _ => rfl), (fun _ => rfl), (fun _ => rfl), (fun hf => by cases hf), (fun _ => rfl), (fun _ => rfl)⟩, u7_6⟩
        · -- operation 5
          replace hK := Lib.hid hK
          have hlast : b8 = false := p.out.2.2.2.2.2.1 hun
          subst hlast
          obtain ⟨Wp, hB, hWp⟩ := hB
          have hWq : W = Wp := by simpa using hWp
          clear hWp
          subst hWq
          have q2 := cell_kept hB cy
          have q3 : W.frozen? ⟨w.heap.size, 2 + y, none⟩ = false := Joins.unfrozen_of_block ((hB.block _ l3).trans S3.out) _
          obtain rfl := h3.out (by simp only [haf])
          obtain rfl := h4.out (by simp only [haf])
          subst hun
          go_simp
          exact hK.out _ _ ⟨b0, b1, b2, b3, b4, true, b6, b7, false, v7, v8, v9, .int .u32 (G : Int), .int .u32 16777215, .int .u32 (bits .xor .u32 (G : Int) 16777215), v13, v14, rfl, (by simp only [Act.put, List.setIfInBounds_toArray, List.set_cons_zero, List.set_cons_succ]), ⟨_, hB, rfl⟩, h0, h1, h2, Lib.hid (fun _ => rfl), Lib.hid (fun _ => rfl), Lib.hid (fun _ => rfl), h6, h7, Lib.hid ⟨(fun _ => rfl), (fun _ => rfl), (fun _ => rfl), (fun _ => rfl), (fun _ => rfl), (fun hf => by cases hf), (fun _ => rfl)⟩, u7_6⟩
        · -- operation 6
          replace hK := Lib.hid hK
          have hmid : b7 = false := by cases hb : b7 with | false => rfl | true => exact absurd (show true = false from (u7_6.out hb).symm.trans hun) (by decide)
          have hlast : b8 = false := p.out.2.2.2.2.2.2 hmid
          clear hmid
          subst hlast
          obtain ⟨Wp, hB, hWp⟩ := hB
          have hWq : W = Wp := by simpa using hWp
          clear hWp
          subst hWq
          have q2 := cell_kept hB cy
          have q3 : W.frozen? ⟨w.heap.size, 2 + y, none⟩ = false := Joins.unfrozen_of_block ((hB.block _ l3).trans S3.out) _
          subst hun
          go_simp
          exact hK.out _ _ ⟨b0, b1, b2, b3, b4, b5, true, b7, false, v7, v8, v9, v10, v11, v12, .pointer (some ⟨w.heap.size, 2, none⟩), v14, rfl, (by simp only [Act.put, List.setIfInBounds_toArray, List.set_cons_zero, List.set_cons_succ]), ⟨_, hB, rfl⟩, h0, h1, h2, h3, h4, h5, Lib.hid (fun _ => rfl), h7, Lib.hid ⟨(fun _ => rfl), (fun _ => rfl), (fun _ => rfl), (fun _ => rfl), (fun _ => rfl), (fun _ => rfl), (fun _ => rfl)⟩, Lib.hid (fun _ => rfl)⟩
        · -- operation 7
          replace hK := Lib.hid hK
          have hlast : b8 = false := p.out.2.2.2.2.2.2 hun
          subst hlast
          obtain ⟨Wp, hB, hWp⟩ := hB
          have hWq : W = Wp := by simpa using hWp
          clear hWp
          subst hWq
          have q2 := cell_kept hB cy
          have q3 : W.frozen? ⟨w.heap.size, 2 + y, none⟩ = false := Joins.unfrozen_of_block ((hB.block _ l3).trans S3.out) _
          obtain rfl := h0.out (by simp only [haf])
          obtain rfl := h6.out (by simp only [haf])
          subst hun
          go_simp
          exact hK.out _ _ ⟨b0, b1, b2, b3, b4, b5, b6, true, false, .int .i64 (y : Int), v8, v9, v10, v11, v12, .pointer (some ⟨w.heap.size, 2, none⟩), .pointer (some ⟨w.heap.size, 2 + y, none⟩), rfl, (by simp only [Act.put, List.setIfInBounds_toArray, List.set_cons_zero, List.set_cons_succ]), ⟨_, hB, rfl⟩, Lib.hid (fun _ => rfl), h1, h2, h3, h4, h5, Lib.hid (fun _ => rfl), Lib.hid (fun _ => rfl), Lib.hid ⟨(fun _ => rfl), (fun _ => rfl), (fun _ => rfl), (fun _ => rfl), (fun _ => rfl), (fun _ => rfl), (fun hf => by cases hf)⟩, Lib.hid (fun _ => (by simp only [haf]))⟩
        · -- operation 8
          replace hK := Lib.hid hK
          subst hun
          obtain ⟨Wp, hB, hWp⟩ := hB
          have hWq : W = Wp := by simpa using hWp
          clear hWp
          subst hWq
          have q2 := cell_kept hB cy
          have q3 : W.frozen? ⟨w.heap.size, 2 + y, none⟩ = false := Joins.unfrozen_of_block ((hB.block _ l3).trans S3.out) _
          obtain rfl := h5.out (by simp only [haf])
          obtain rfl := h7.out (by simp only [haf])
          go_simp
          exact hK.out _ _ ⟨b0, b1, b2, b3, b4, b5, b6, b7, true, v7, v8, v9, v10, v11, .int .u32 (bits .xor .u32 (G : Int) 16777215), v13, .pointer (some ⟨w.heap.size, 2 + y, none⟩), rfl, (by simp only [Act.put, List.setIfInBounds_toArray, List.set_cons_zero, List.set_cons_succ]), ⟨_, hB, rfl⟩, h0, h1, h2, h3, h4, Lib.hid (fun _ => rfl), h6, Lib.hid (fun _ => rfl), Lib.hid ⟨(fun hf => absurd (show false = true from hf.symm.trans (by simp only [haf])) (by decide)), (fun hf => absurd (show false = true from hf.symm.trans (by simp only [haf])) (by decide)), (fun hf => absurd (show false = true from hf.symm.trans (by simp only [haf])) (by decide)), (fun hf => absurd (show false = true from hf.symm.trans (by simp only [haf])) (by decide)), (fun hf => absurd (show false = true from hf.symm.trans (by simp only [haf])) (by decide)), (fun hf => absurd (show false = true from hf.symm.trans (by simp only [haf])) (by decide)), (fun hf => absurd (show false = true from hf.symm.trans (by simp only [haf])) (by decide))⟩, u7_6⟩
      intro L A W hI hr
      obtain ⟨b0, b1, b2, b3, b4, b5, b6, b7, b8, v7, v8, v9, v10, v11, v12, v13, v14, rfl, rfl, hB, h0, h1, h2, h3, h4, h5, h6, h7, p, u7_6⟩ := hI
      have d0 := ready_done hr 0 _ rfl (by simp [Region.binds])
      simp at d0
      subst d0
      have d1 := ready_done hr 1 _ rfl (by simp [Region.binds])
      simp at d1
      subst d1
      have d2 := ready_done hr 2 _ rfl (by simp [Region.binds])
      simp at d2
      subst d2
      have d3 := ready_done hr 3 _ rfl (by simp [Region.binds])
      simp at d3
      subst d3
      have d4 := ready_done hr 4 _ rfl (by simp [Region.binds])
      simp at d4
      subst d4
      have d5 := ready_done hr 5 _ rfl (by simp [Region.binds])
      simp at d5
      subst d5
      have d6 := ready_done hr 6 _ rfl (by simp [Region.binds])
      simp at d6
      subst d6
      have d7 := ready_done hr 7 _ rfl (by simp [Region.binds])
      simp at d7
      subst d7
      have d8 := ready_done hr 8 _ rfl (by simp [Region.binds])
      simp at d8
      subst d8
      obtain rfl := h0.out rfl
      obtain rfl := h1.out rfl
      obtain rfl := h2.out rfl
      obtain rfl := h3.out rfl
      obtain rfl := h4.out rfl
      obtain rfl := h5.out rfl
      obtain rfl := h6.out rfl
      obtain rfl := h7.out rfl
      obtain ⟨Wp, hB, hWp⟩ := hB
      have hWq : W = Wp.setCell ⟨w.heap.size, 2 + y, none⟩ (.int .u32 (bits .xor .u32 (G : Int) 16777215)) := by simpa using hWp
      clear hWp
      subst hWq
      simp only [Act.put, List.setIfInBounds_toArray, List.set_cons_zero, List.set_cons_succ]
      clear hr h0 h1 h2 h3 h4 h5 h6 h7 p u7_6
      have HBp := Lib.hid (B3.out.trans (hB.mono B3.out.size))
      have HRp := Lib.hid ((hB.block _ lr).trans R3.out)
      have HSp := Lib.hid ((hB.block _ l3).trans S3.out)
      clear hB
      have HX := Lib.hid (Lib.heap_setCell_same (i := 2 + y) HSp.out (.int .u32 (bits .xor .u32 (G : Int) 16777215)))
      rw [HXe.out] at HX
      go_wp2
      go_roundw
      case rel => exact ⟨y + 1, by omega, by go_num, (Below.heap_setCell _ _ _ _ (by first | (simp; done) | (simp; omega))).trans HRp.out, HX.out, HBp.out.setCell (p := ⟨w.heap.size, 2 + y, none⟩) (Nat.le_refl _) _⟩
      case measure => simp [intOf]; omega
    · obtain rfl : y = 24 := by omega
      rw [HP2.out] at S3
      clear hsh
      go_wp2_with (first | (refine wpList_load_row rfl 68 _ rfl w.heap.size rfl 68 P2 (0, 0) _ S3.out Tryd.underlying68 rfl HI4.out ?_) | (refine wpList_store_row rfl 68 _ _ rfl (w.heap.size + 1) P2 rfl rfl 68 zerosP R3.out HI4.out HI5.out HI6.out ?_))
      exact bodyPost_ret (results_cell1 (p := 2) (ty := 68) Tryd.results79 _ _ (w.heap.size + 1) 68 P2 (0, 0) _ rfl (setRow_heap _ _ _ _ _ _ R3.out) Tryd.underlying68 rfl HI4.out) rfl ⟨rfl, setRow_below B3.out (by omega) _⟩
end Go.Proofs.YtenbhnfajjknkaaDoor
