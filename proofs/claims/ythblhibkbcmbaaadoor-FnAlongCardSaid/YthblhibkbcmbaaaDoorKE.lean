/- Contracts of single functions, and plain lemmas, on which the exact laws of this seat rest; each holds under the conditions that it states. -/
import Derived.Test.YthblhibkbcmbaaaDoorKA
import Derived.Test.YthblhibkbcmbaaaDoorKF
import Derived.Test.YthblhibkbcmbaaaDoorGP
import Derived.Test.YthblhibkbcmbaaaDoorCV7
import Derived.Test.YthblhibkbcmbaaaDoorCVC
import Derived.Test.YthblhibkbcmbaaaDoorCV5
import Derived.Test.YthblhibkbcmbaaaDoorGD
import Derived.Test.YthblhibkbcmbaaaDoorQb
import Derived.Test.YthblhibkbcmbaaaDoorKS
namespace Go.Proofs.YthblhibkbcmbaaaDoor
set_option linter.unusedVariables false
set_option linter.unusedSimpArgs false
open Go.RowKit
attribute [local go_sem] Oper.semAt_some

/-- a matrix that is being painted, and what lies about it -/
structure PnSt (w wr : World) (mb g N sd : Nat) (S : List (Int × Int)) (G : Nat → Nat → Bool) : Prop where
  mx : ∃ gw : Nat → Nat, wr.heap[mb]? = some (.cells (mat sd sd gw) 59 (0, 0)) ∧ (∀ j, gw j < 4294967296) ∧ (∀ y x, y < sd → x < sd → (gw y).testBit x = G y x)
  sp : ∀ i, i < N → wr.cell? ⟨g, i * 2, none⟩ = some (.int .i64 (S.getD i (0, 0)).1) ∧ wr.cell? ⟨g, i * 2 + 1, none⟩ = some (.int .i64 (S.getD i (0, 0)).2)
  rc : wr.heap[w.heap.size + 1]? = some (.cells zeros 59 (0, 0))
  bel : Below w.heap.size w wr
  ne : g ≠ mb
  mlt : w.heap.size + 1 < mb
section
variable {w wr wr' : World} {mb g N sd : Nat} {S : List (Int × Int)} {G : Nat → Nat → Bool}
theorem PnSt.below (h : PnSt w wr mb g N sd S G) (hb : Below wr.heap.size wr wr') : PnSt w wr' mb g N sd S G := by
  obtain ⟨gw, h1, h2, h3⟩ := h.mx
  exact ⟨⟨gw, (hb.block _ (Array.getElem?_eq_some_iff.1 h1).1).trans h1, h2, h3⟩, fun i hi => ⟨cell_kept hb (h.sp i hi).1, cell_kept hb (h.sp i hi).2⟩, (hb.block _ (Array.getElem?_eq_some_iff.1 h.rc).1).trans h.rc, h.bel.trans (hb.mono h.bel.size), h.ne, h.mlt⟩
theorem PnSt.set (h : PnSt w wr mb g N sd S G) {gw : Nat → Nat} (hg : ∀ j, gw j < 4294967296) (hG : ∀ y x, y < sd → x < sd → (gw y).testBit x = G y x) {q p : Nat} {b : Bool} (hq : q < sd) (hp : p < sd) (hsd : sd ≤ 16) (hx : SetX wr wr' mb sd sd gw q p b) : PnSt w wr' mb g N sd S (updB G q p b) := by
  obtain ⟨h1, h2, h3, h4⟩ := hx
  have ck : ∀ o, wr'.cell? ⟨g, o, none⟩ = wr.cell? ⟨g, o, none⟩ := fun o => by
    unfold World.cell?
    rw [h3 g h.ne]
  refine ⟨⟨_, h1, upd_all hg q p b (by omega), fun y x hy hx => ?_⟩, fun i hi => ⟨(ck _).trans (h.sp i hi).1, (ck _).trans (h.sp i hi).2⟩, (h3 _ (by have := h.mlt; omega)).trans h.rc, h.bel.trans (h2.mono (by have := h.mlt; omega)), h.ne, h.mlt⟩
  unfold updG updB
  by_cases e : y = q
  · subst e
    rw [if_pos rfl, upd_bit _ _ _ _ (by omega) (by omega)]
    by_cases e2 : x = p
    · rw [if_pos e2, if_pos ⟨rfl, e2⟩]
    · rw [if_neg e2, if_neg (fun h => e2 h.2)]
      exact hG y x hy hx
  · rw [if_neg e, if_neg (fun h => e h.1)]
    exact hG y x hy hx
end

def Painted (w : World) (sd : Nat) (G : Nat → Nat → Bool) (ok : Bool) (e : Ending) (w' : World) : Prop :=
  ((ok = true ∧ ∃ gw : Nat → Nat, e = .returned (.agg (mat sd sd gw)) ∧ (∀ j, gw j < 4294967296) ∧ (∀ y x, y < sd → x < sd → (gw y).testBit x = G y x)) ∨ (ok = false ∧ ∃ T x, e = .panicked [{ v := .iface T x, recovered := false }])) ∧ Below w.heap.size w w'

set_option maxHeartbeats 8000000 in
set_option maxRecDepth 100000 in
theorem painted_any (c n : Nat) (v : Value) (rs : List Int) (w : World) (hc : c < 4) (hn : n ≤ 4) (hQ : QvP w) (hNr : NoRes w) (hl : rs.length ≤ 1048576) (hv : SlN w v rs) :
    Calls Tryd.prog 49 #[.agg #[.int .i64 (c : Int), .int .i64 (n : Int)], v] w (Painted w (2 ^ n) (gK (cvF c n) rs rs.length) (okK (2 ^ n * 2 ^ n) rs rs.length)) := by
  have CSq := Lib.hid (fun W => square_any (c : Int) (n : Int) W (by omega) (by omega))
  rw [sq_mat] at CSq
  obtain ⟨W0, hW0⟩ : ∃ W0, ((w.alloc (.cells #[.int .i64 (c : Int), .int .i64 (n : Int)] 66)).alloc (.cells zeros 59)) = W0 := ⟨_, rfl⟩
  have b0 : Below w.heap.size w W0 := by rw [← hW0]; exact Joins.below_alloc2 _ _ _
  have ht0 : W0.heap[w.heap.size]? = some (.cells #[.int .i64 (c : Int), .int .i64 (n : Int)] 66 (0, 0)) := by
    rw [← hW0, Below.heap_alloc _ _ _ (by simp)]; exact heap_alloc_last w _
  have hr0 : W0.heap[w.heap.size + 1]? = some (.cells zeros 59 (0, 0)) := by
    rw [← hW0]
    exact heap_alloc2_new _ _ _
  have hs0 : W0.heap.size = w.heap.size + 1 + 1 := by rw [← hW0]; simp
  have HTc : Hid (∀ W, Below W0.heap.size W0 W → W.cell? ⟨w.heap.size, 0, none⟩ = some (.int .i64 (c : Int)) ∧ W.cell? ⟨w.heap.size, 1, none⟩ = some (.int .i64 (n : Int))) := fun W hb => ⟨cell_kept hb (by rw [Joins.cell_of_block ht0 0]; rfl), cell_kept hb (by rw [Joins.cell_of_block ht0 1]; rfl)⟩
  have CSp : Hid (∀ W, Below w.heap.size w W → Calls Tryd.prog 62 #[.agg #[.int .i64 (c : Int), .int .i64 (n : Int)]] W (TookSpots W (cvF c n))) := fun W hb => spots_made c n W hc hn (hQ.below hb)
  have HLf := Lib.hid (cvF_len c n)
  have h256 : 2 ^ n * 2 ^ n ≤ 256 := Nat.mul_le_mul (pow_le16 hn) (pow_le16 hn)
  have hs16 : 1 ≤ 2 ^ n ∧ 2 ^ n ≤ 16 := ⟨Nat.one_le_two_pow, pow_le16 hn⟩
  have HIn := Lib.hid (cvF_in c n)
  obtain ⟨S, hS⟩ : ∃ S, cvF c n = S := ⟨_, rfl⟩
  rw [hS] at HLf CSp HIn ⊢
  unfold TookSpots at CSp
  obtain ⟨M0, hM0⟩ : ∃ M, mat (2 ^ n) (2 ^ n) (fun _ => 0) = M := ⟨_, rfl⟩
  rw [hM0] at CSq
  have hsz : M0.size = 18 := by rw [← hM0]; rfl
  have hone : M0.all (·.oneCell') = true := by rw [← hM0]; exact mcells_one _ _ _
  have HI0 : Hid ((Tryd.prog.info? 59).map (·.size) = some M0.size) := by show _ = _; rw [hsz]; exact infoM
  have HZ0 := Lib.hid (zeros_size.trans hsz.symm)
  have HO0 := Lib.hid hone
  obtain ⟨sd2, hsd⟩ : ∃ s, 2 ^ n = s := ⟨_, rfl⟩
  rw [hsd] at HLf h256 hs16 HIn hM0 ⊢
  obtain ⟨N, hN⟩ : ∃ N, sd2 * sd2 = N := ⟨_, rfl⟩
  rw [hN] at HLf h256 ⊢
  rw [HLf.out] at CSp
  have HM0 := Lib.hid hM0
  obtain ⟨ao, vcap, rfl⟩ := hv.form
  obtain ⟨m, hm⟩ : ∃ m, rs.length = m := ⟨_, rfl⟩
  have HGs : Hid (∀ k, gK S rs (k + 1) = ptG S (decide (k % 2 = 1)) (atK rs k) (rs.getD k 0).toNat (gK S rs k)) := fun _ => rfl
  have HPs : Hid (∀ b a j G, ptG S b a (j + 1) G = updB (ptG S b a j G) (sY S (a + j)) (sX S (a + j)) b) := fun _ _ _ _ => rfl
  have HP0 : Hid (∀ b a G, ptG S b a 0 G = G) := fun _ _ _ => rfl
  have HAs : Hid (∀ k, atK rs (k + 1) = atK rs k + (rs.getD k 0).toNat) := fun _ => rfl
  have HA0 : Hid (atK rs 0 = 0) := rfl
  have HKs : Hid (∀ k, okK N rs (k + 1) = (okK N rs k && inB (rs.getD k 0) 0 ((N : Int) - (atK rs k : Int)))) := fun _ => rfl
  have HKn : Hid (∀ k, k < m → inB (rs.getD k 0) 0 ((N : Int) - (atK rs k : Int)) = false → okK N rs m = false) := fun k hk h => okK_no hk h
  have HKa : Hid (∀ k, okK N rs k = true → atK rs k ≤ N) := fun k h => okK_at h
  have HR : Hid (∀ j, j < m → ∀ W, Below w.heap.size w W → ∃ b off, ao = some ⟨b, off, none⟩ ∧ W.cell? ⟨b, off + j, none⟩ = some (.int .i64 (rs.getD j 0)) ∧ b < W.heap.size) := fun j hj W hb => by
    rcases hv with ⟨_, _, e, h0⟩ | ⟨b, off, c2, e, hpos, hbl, hcell⟩
    · rw [h0] at hm
      simp at hm
      omega
    · injection e with e1 _ _
      exact ⟨b, off, e1, cell_kept hb (hcell j (by omega)), Nat.lt_of_lt_of_le hbl hb.size⟩
  have HNr : Hid (∀ W, Below w.heap.size w W → NoRes W) := fun W hb => hNr.below hb
  rw [hm] at hl ⊢
  have hm257 : (m : Int) ≤ 1048576 := by omega
  have B0 := Lib.hid b0
  have HB0 := Lib.hid b0
  have HR0 := Lib.hid hr0
  have HW := Lib.hid hW0
  have Hs0 := Lib.hid hs0
  clear hS hsd hN hm hv hc hn hQ hNr hsz hone hM0 ht0 hr0 b0 hW0 hs0
  go_enter Tryd.func49, Tryd.ntmps49
  go_upto_region 1 with fail
  rw [show (Obj.cells #[.int .i64 0, .int .i64 0, .int .u32 0, .int .u32 0, .int .u32 0, .int .u32 0, .int .u32 0, .int .u32 0, .int .u32 0, .int .u32 0, .int .u32 0, .int .u32 0, .int .u32 0, .int .u32 0, .int .u32 0, .int .u32 0, .int .u32 0, .int .u32 0] 59) = .cells zeros 59 from rfl, HW.out]
  refine wp_region_inv_at (by kernel_rfl) (fun A0 L A W => ∃ (b0 b1 b2 b3 b4 b5 b6 : Bool) (v11 v12 v13 v14 v5 v6 : Value), L = #[b0, b1, b2, b3, b4, b5, b6] ∧ A = ((((((A0.put (some 11) v11).put (some 12) v12).put (some 13) v13).put (some 14) v14).put (some 5) v5).put (some 6) v6) ∧ (Below W0.heap.size W0 W) ∧ Hid (b0 = true → v11 = .agg #[.int .i64 (c : Int), .int .i64 (n : Int)]) ∧ Hid (b1 = true → v12 = .agg M0) ∧ Hid (b2 = true → v13 = .agg #[.int .i64 (c : Int), .int .i64 (n : Int)]) ∧ Hid (b3 = true → b6 = false → ∃ g cap, v14 = .slice (some ⟨g, 0, none⟩) N cap ∧ OwnS W W0.heap.size (.slice (some ⟨g, 0, none⟩) N cap) S) ∧ Hid (b4 = true → ∃ mb, v5 = .pointer (some ⟨mb, 0, none⟩) ∧ W0.heap.size ≤ mb ∧ W.heap[mb]? = some (.cells (if b5 = true then M0 else #[.int .i64 0, .int .i64 0, .int .u32 0, .int .u32 0, .int .u32 0, .int .u32 0, .int .u32 0, .int .u32 0, .int .u32 0, .int .u32 0, .int .u32 0, .int .u32 0, .int .u32 0, .int .u32 0, .int .u32 0, .int .u32 0, .int .u32 0, .int .u32 0]) 59 (0, 0))) ∧ Hid (b4 = false → b5 = false) ∧ Hid (b6 = true → ∃ g cap, v6 = .slice (some ⟨g, 0, none⟩) N cap ∧ OwnS W W0.heap.size (.slice (some ⟨g, 0, none⟩) N cap) S)) ?_ ?_ ?_
  · intro A0
    refine ⟨false, false, false, false, false, false, false, A0.tmps.getD 11 undef, A0.tmps.getD 12 undef, A0.tmps.getD 13 undef, A0.tmps.getD 14 undef, A0.tmps.getD 5 undef, A0.tmps.getD 6 undef, rfl, (by simp only [put_self]), (Below.refl _ _).drew, Lib.hid (fun hf => by cases hf), Lib.hid (fun hf => by cases hf), Lib.hid (fun hf => by cases hf), Lib.hid (fun hf => by cases hf), Lib.hid (fun hf => by cases hf), Lib.hid (fun _ => rfl), Lib.hid (fun hf => by cases hf)⟩
  · intro L A W hI i hi o ho K' hK
    have hlt := (ready_left hi).1
    have hun := (ready_left hi).2
    have haf := ready_after hi ho
    clear hi
    obtain ⟨b0, b1, b2, b3, b4, b5, b6, v11, v12, v13, v14, v5, v6, rfl, rfl, hB, h0, h1, h2, h3, h4, n4, h6⟩ := hI
    have hc : i = 0 ∨ i = 1 ∨ i = 2 ∨ i = 3 ∨ i = 4 ∨ i = 5 ∨ i = 6 := by
      simp at hlt
      omega
    have q0 := (HTc.out W hB).1
    have q1 := (HTc.out W hB).2
    rcases hc with rfl | rfl | rfl | rfl | rfl | rfl | rfl
    all_goals (obtain rfl := Option.some.inj ho; clear ho; simp [Region.binds] at haf hun; (try simp only [List.getElem_toArray, List.getElem_cons_zero, List.getElem_cons_succ]); simp only [Act.put, List.setIfInBounds_toArray, List.set_cons_zero, List.set_cons_succ])
    · -- operation 0
      replace hK := Lib.hid hK
      subst hun
      go_simp
      exact hK.out _ _ ⟨true, b1, b2, b3, b4, b5, b6, .agg #[.int .i64 (c : Int), .int .i64 (n : Int)], v12, v13, v14, v5, v6, rfl, (by simp only [Act.put, List.setIfInBounds_toArray, List.set_cons_zero, List.set_cons_succ]), hB, Lib.hid (fun _ => rfl), h1, h2, h3, h4, n4, h6⟩
    · -- operation 1
      replace hK := Lib.hid hK
      obtain rfl := (h0.out (by simp only [haf])).symm
      subst hun
      go_simp
      refine (CSq.out W).mono ?_
      rintro e W' ⟨rfl, hb⟩
      have hkept := fun kb (hk : kb < W.heap.size) => hb.block kb hk
      exact hK.out _ _ ⟨b0, true, b2, b3, b4, b5, b6, .agg #[.int .i64 (c : Int), .int .i64 (n : Int)], .agg M0, v13, v14, v5, v6, rfl, (by simp only [Act.put, List.setIfInBounds_toArray, List.set_cons_zero, List.set_cons_succ]), hB.trans (hb.mono hB.size), Lib.hid (fun _ => rfl), Lib.hid (fun _ => rfl), h2, Lib.hid (fun hx hu => by obtain ⟨g, cap, e1, fx⟩ := h3.out hx hu; exact ⟨g, cap, e1, own_below fx hb⟩), Lib.hid (fun hx => by obtain ⟨kb, e1, e2, e3⟩ := h4.out hx; exact ⟨kb, e1, e2, (hkept kb (Array.getElem?_eq_some_iff.1 e3).1).trans e3⟩), n4, Lib.hid (fun hx => by obtain ⟨g, cap, e1, fx⟩ := h6.out hx; exact ⟨g, cap, e1, own_below fx hb⟩)⟩
    · -- operation 2
      replace hK := Lib.hid hK
      subst hun
      go_simp
      exact hK.out _ _ ⟨b0, b1, true, b3, b4, b5, b6, v11, v12, .agg #[.int .i64 (c : Int), .int .i64 (n : Int)], v14, v5, v6, rfl, (by simp only [Act.put, List.setIfInBounds_toArray, List.set_cons_zero, List.set_cons_succ]), hB, h0, h1, Lib.hid (fun _ => rfl), h3, h4, n4, h6⟩
    · -- operation 3
      replace hK := Lib.hid hK
      obtain rfl := (h2.out (by simp only [haf])).symm
      subst hun
      go_simp
      refine (CSp.out W (HB0.out.trans (hB.mono HB0.out.size))).mono ?_
      rintro e W' ⟨g, cap, rfl, fo0, hb⟩
      have fo : OwnS W' W0.heap.size (.slice (some ⟨g, 0, none⟩) N cap) S := Joins.ownsRow_le fo0 hB.size
      have hkept := fun kb (hk : kb < W.heap.size) => hb.block kb hk
      exact hK.out _ _ ⟨b0, b1, b2, true, b4, b5, b6, v11, v12, .agg #[.int .i64 (c : Int), .int .i64 (n : Int)], .slice (some ⟨g, 0, none⟩) N cap, v5, v6, rfl, (by simp only [Act.put, List.setIfInBounds_toArray, List.set_cons_zero, List.set_cons_succ]), hB.trans (hb.mono hB.size), h0, h1, Lib.hid (fun _ => rfl), Lib.hid (fun _ _ => ⟨g, cap, rfl, fo⟩), Lib.hid (fun hx => by obtain ⟨kb, e1, e2, e3⟩ := h4.out hx; exact ⟨kb, e1, e2, (hkept kb (Array.getElem?_eq_some_iff.1 e3).1).trans e3⟩), n4, Lib.hid (fun hx => by obtain ⟨g, cap, e1, fx⟩ := h6.out hx; exact ⟨g, cap, e1, own_below fx hb⟩)⟩
    · -- operation 4
      replace hK := Lib.hid hK
      subst hun
      have hbs : b5 = false := n4.out rfl
      subst hbs
      go_simp
      have hkept := fun kb (hk : kb < W.heap.size) => Below.heap_alloc W (.cells #[.int .i64 0, .int .i64 0, .int .u32 0, .int .u32 0, .int .u32 0, .int .u32 0, .int .u32 0, .int .u32 0, .int .u32 0, .int .u32 0, .int .u32 0, .int .u32 0, .int .u32 0, .int .u32 0, .int .u32 0, .int .u32 0, .int .u32 0, .int .u32 0] 59) kb hk
      have hb := Joins.below_alloc1 W (.cells #[.int .i64 0, .int .i64 0, .int .u32 0, .int .u32 0, .int .u32 0, .int .u32 0, .int .u32 0, .int .u32 0, .int .u32 0, .int .u32 0, .int .u32 0, .int .u32 0, .int .u32 0, .int .u32 0, .int .u32 0, .int .u32 0, .int .u32 0, .int .u32 0] 59)
      exact hK.out _ _ ⟨b0, b1, b2, b3, true, false, b6, v11, v12, v13, v14, .pointer (some ⟨W.heap.size, 0, none⟩), v6, rfl, (by simp only [Act.put, List.setIfInBounds_toArray, List.set_cons_zero, List.set_cons_succ]), hB.alloc hB.size _, h0, h1, h2, Lib.hid (fun hx hu => by obtain ⟨g, cap, e1, fx⟩ := h3.out hx hu; exact ⟨g, cap, e1, own_below fx hb⟩), Lib.hid (fun _ => ⟨_, rfl, hB.size, heap_alloc_last W _⟩), Lib.hid (fun hf => by cases hf), Lib.hid (fun hx => by obtain ⟨g, cap, e1, fx⟩ := h6.out hx; exact ⟨g, cap, e1, own_below fx hb⟩)⟩
    · -- operation 5
      replace hK := Lib.hid hK
      obtain rfl := (h1.out (by simp only [haf])).symm
      obtain ⟨mb, rfl, hmb, hm2⟩ := h4.out (by simp only [haf])
      subst hun
      simp only [Bool.false_eq_true, if_false] at hm2
      rw [if_pos (by simp [Region.wanted])]
      refine wp_store_row 59 _ _ rfl mb M0 rfl rfl 59 (#[.int .i64 0, .int .i64 0, .int .u32 0, .int .u32 0, .int .u32 0, .int .u32 0, .int .u32 0, .int .u32 0, .int .u32 0, .int .u32 0, .int .u32 0, .int .u32 0, .int .u32 0, .int .u32 0, .int .u32 0, .int .u32 0, .int .u32 0, .int .u32 0]) hm2 HI0.out HZ0.out HO0.out ?_
      have hnew : (W.setRow mb M0).heap[mb]? = some (.cells M0 59 (0, 0)) := setRow_heap _ _ _ _ _ _ hm2
      have hBn := setRow_below hB hmb M0
      have hoth : ∀ kb, kb ≠ mb → (W.setRow mb M0).heap[kb]? = W.heap[kb]? := fun kb hk => setRow_other W mb kb M0 hk
      exact hK.out _ _ ⟨b0, b1, b2, b3, b4, true, b6, v11, .agg M0, v13, v14, .pointer (some ⟨mb, 0, none⟩), v6, rfl, (by simp only [Act.put, List.setIfInBounds_toArray, List.set_cons_zero, List.set_cons_succ]), hBn, h0, Lib.hid (fun _ => rfl), h2, Lib.hid (fun hx hu => by obtain ⟨g, cap, e1, fx⟩ := h3.out hx hu; exact ⟨g, cap, e1, own_keepB fx (fun kk hkk => hoth kk (fun he => own_ne fx hm2 (by decide) (by rw [← he]; exact hkk)))⟩), Lib.hid (fun _ => ⟨mb, rfl, hmb, hnew⟩), Lib.hid (fun hf => absurd (show false = true from hf.symm.trans (by simp only [haf])) (by decide)), Lib.hid (fun hx => by obtain ⟨g, cap, e1, fx⟩ := h6.out hx; exact ⟨g, cap, e1, own_keepB fx (fun kk hkk => hoth kk (fun he => own_ne fx hm2 (by decide) (by rw [← he]; exact hkk)))⟩)⟩
    · -- operation 6
      replace hK := Lib.hid hK
      obtain ⟨g, cap, rfl, fo⟩ := h3.out (by simp only [haf]) (by first | exact hun | simp only [haf])
      subst hun
      go_simp
      exact hK.out _ _ ⟨b0, b1, b2, b3, b4, b5, true, v11, v12, v13, .slice (some ⟨g, 0, none⟩) N cap, v5, .slice (some ⟨g, 0, none⟩) N cap, rfl, (by simp only [Act.put, List.setIfInBounds_toArray, List.set_cons_zero, List.set_cons_succ]), hB, h0, h1, h2, Lib.hid (fun _ hu => by cases hu), h4, n4, Lib.hid (fun _ => ⟨g, cap, rfl, fo⟩)⟩
  intro L A W hI hr
  obtain ⟨b0, b1, b2, b3, b4, b5, b6, v11, v12, v13, v14, v5, v6, rfl, rfl, hB, h0, h1, h2, h3, h4, n4, h6⟩ := hI
  have d0 := ready_done hr 0 _ rfl (by simp [Region.binds])
  have d2 := ready_done hr 2 _ rfl (by simp [Region.binds])
  have d4 := ready_done hr 4 _ rfl (by simp [Region.binds])
  simp at d0 d2 d4
  subst d0 d2 d4
  have d1 := ready_done hr 1 _ rfl (by simp [Region.binds])
  simp at d1
  subst d1
  have d3 := ready_done hr 3 _ rfl (by simp [Region.binds])
  simp at d3
  subst d3
  have d5 := ready_done hr 5 _ rfl (by simp [Region.binds])
  simp at d5
  subst d5
  have d6 := ready_done hr 6 _ rfl (by simp [Region.binds])
  simp at d6
  subst d6
  obtain rfl := (h0.out rfl).symm
  obtain rfl := (h1.out rfl).symm
  obtain rfl := (h2.out rfl).symm
  obtain ⟨mb4, rfl, hmb4, hm4⟩ := h4.out rfl
  obtain ⟨g, cap, rfl, fo⟩ := h6.out rfl
  simp only [Act.put, List.setIfInBounds_toArray, List.set_cons_zero, List.set_cons_succ]
  clear hr h0 h1 h2 h3 h4 n4 h6
  have hm4 := hm4
  simp only [if_true] at hm4
  have hltr := fo.lt g rfl
  have hne : g ≠ mb4 := fun e => own_ne fo hm4 (by decide) (by rw [← e]; rfl)
  have hSp := OwnS.spots fo
  have hcap : N ≤ cap := by
    rcases fo.2 with ⟨e, _⟩ | ⟨_, _, _, e, _, _, hc, _⟩
    · cases e
    · injection e with _ e2 e3
      omega
  have HPn : Hid (PnSt w W mb4 g N sd2 S (gK S rs 0)) := ⟨⟨fun _ => 0, by rw [← HM0.out] at hm4; exact hm4, fun _ => by show 0 < _; omega, fun y x _ _ => Nat.zero_testBit x⟩, fun i hi => hSp.2 i (by rw [HLf.out]; exact hi), (hB.block _ (Array.getElem?_eq_some_iff.1 HR0.out).1).trans HR0.out, HB0.out.trans (hB.mono HB0.out.size), hne, by have := Hs0.out; omega⟩
  obtain ⟨mb, hmb⟩ : ∃ z, mb4 = z := ⟨_, rfl⟩
  rw [hmb] at HPn ⊢
  clear hm4 hltr hne hSp fo hB hmb4 hmb HTc CSp CSq HI0 HZ0 HO0 HM0 HLf HR0 HB0 HW Hs0 B0
  have hc0 : 0 ≤ N := Nat.zero_le _
  go_wp2_with fail
  go_loopw [6, 17] (fun lv kv wr => ∃ k off r cr : Nat, k ≤ m ∧ kv = .int .i64 (k : Int) ∧ lv = .slice (some ⟨g, off, none⟩) r cr ∧ (0 < r → off = atK rs k * 2) ∧ r + atK rs k = N ∧ r ≤ cr ∧ Hid (okK N rs k = true) ∧ Hid (PnSt w wr mb g N sd2 S (gK S rs k))) (fun _ kv _ => m - (intOf kv).toNat)
  case atStart => exact ⟨0, 0, N, cap, Nat.zero_le _, rfl, rfl, fun _ => by rw [HA0.out], by rw [HA0.out]; rfl, hcap, Lib.hid rfl, HPn⟩
  case round =>
    clear HPn hcap
    obtain ⟨k, off, r, cr, hk, rfl, rfl, hoff, hrN, hrc, HKk, HP⟩ := hrel
    by_cases hlt : k < m
    · have kk : (k : Int) < (m : Int) := by omega
      have kk0 : (0 : Int) ≤ (k : Int) := by omega
      obtain ⟨b, bo, hao, hcell, hbl⟩ := HR.out k hlt wr HP.out.bel
      subst hao
      have HGk := Lib.hid (HGs.out k)
      have HAk := Lib.hid (HAs.out k)
      have HOkk := Lib.hid (HKs.out k)
      have HNo := Lib.hid (HKn.out k hlt)
      obtain ⟨a, ha⟩ : ∃ a, atK rs k = a := ⟨_, rfl⟩
      obtain ⟨q, hq⟩ : ∃ q, rs.getD k 0 = q := ⟨_, rfl⟩
      rw [ha, hq] at HGk HAk HOkk HNo
      rw [ha] at hoff hrN
      rw [hq] at hcell
      have HNw := Lib.hid (HNr.out wr HP.out.bel)
      have HBw := Lib.hid HP.out.bel
      have hNa : (N : Int) - (a : Int) = (r : Int) := by omega
      rw [hNa] at HOkk HNo
      have HOff := Lib.hid hoff
      clear ha hq hoff hNa
      by_cases hq0 : 0 ≤ q
      · by_cases hqr : q ≤ (r : Int)
        · have hin : inB q 0 (r : Int) = true := by simp only [inB, Bool.and_eq_true, decide_eq_true_eq]; exact ⟨hq0, hqr⟩
          have HOk1 : Hid (okK N rs (k + 1) = true) := by show _ = _; rw [HOkk.out, hin, HKk.out]; rfl
          obtain ⟨qn, rfl⟩ : ∃ qn : Nat, q = (qn : Int) := ⟨q.toNat, by omega⟩
          have hqrn : qn ≤ r := by omega
          have hqc : (qn : Int) ≤ (cr : Int) := by omega
          rw [Int.toNat_natCast] at HGk HAk
          obtain ⟨rm, pb, kt, kb, hpb⟩ := tmod_cases k
          rw [← hpb] at HGk
          have HPj := Lib.hid (fun j => HPs.out pb a j (gK S rs k))
          have HPz := Lib.hid (HP0.out pb a (gK S rs k))
          obtain ⟨G0, hG0⟩ : ∃ G, gK S rs k = G := ⟨_, rfl⟩
          rw [hG0] at HGk HPj HPz HP
          have HKt := Lib.hid kt
          have HKb := Lib.hid kb
          clear hin hpb hG0 HOkk HNo kt kb
          go_wp2_with fail
          refine (require_yes _).mono ?_
          rintro e wr ⟨rfl, rfl⟩
          go_wp2_with fail
          go_loopw [35] (fun iv wr => ∃ j : Nat, j ≤ qn ∧ iv = .int .i64 (j : Int) ∧ Hid (PnSt w wr mb g N sd2 S (ptG S pb a j G0))) (fun iv _ => qn - (intOf iv).toNat)
          case atStart => exact ⟨0, Nat.zero_le _, rfl, by rw [HPz.out]; exact HP⟩
          case round =>
            clear HP hcell hbl HNw HBw
            obtain ⟨j, hj, rfl, HPn⟩ := hrel
            by_cases hjl : j < qn
            · have kj : (j : Int) < (qn : Int) := by omega
              have kj0 : (0 : Int) ≤ (j : Int) := by omega
              obtain ⟨px, py, hpx, hpy, he⟩ := HIn.out (a + j)
              have hsx : sX S (a + j) = px := by unfold sX; rw [he]; rfl
              have hsy : sY S (a + j) = py := by unfold sY; rw [he]; rfl
              have hs := HPn.out.sp (a + j) (by omega)
              rw [he, show (a + j) * 2 = off + j * 2 from by have := HOff.out (by omega); omega] at hs
              obtain ⟨y0, y1⟩ := hs
              simp only at y0 y1
              have HPt := Lib.hid (HPj.out j)
              rw [hsx, hsy] at HPt
              have hbA := Joins.below_alloc1 wr (.cells #[.int .i64 (px : Int), .int .i64 (py : Int)] 76)
              have hpA := heap_alloc_last wr (.cells #[.int .i64 (px : Int), .int .i64 (py : Int)] 76)
              have HP5 := Lib.hid (HPn.out.below hbA)
              obtain ⟨W5, hW5⟩ : ∃ W5, wr.alloc (.cells #[.int .i64 (px : Int), .int .i64 (py : Int)] 76) = W5 := ⟨_, rfl⟩
              rw [hW5] at HP5 hpA
              have z0 : W5.cell? ⟨wr.heap.size, 0, none⟩ = some (.int .i64 (px : Int)) := by rw [Joins.cell_of_block hpA 0]; rfl
              have z1 : W5.cell? ⟨wr.heap.size, 1, none⟩ = some (.int .i64 (py : Int)) := by rw [Joins.cell_of_block hpA 1]; rfl
              have HW5 := Lib.hid hW5
              have Hpx := Lib.hid hpx
              have Hpy := Lib.hid hpy
              clear hsx hsy he hW5 hpA hbA hpx hpy
              go_upto_region 9 with fail
              rw [HW5.out]
              clear y0 y1
              have kt := HKt.out
              have kb := HKb.out
              obtain ⟨gw, hmx, hgw, hgb⟩ := HP5.out.mx
              have hsd16 : sd2 ≤ 16 := hs16.2
              have CSt := Lib.hid (set_any2 mb sd2 sd2 gw px py pb W5 hmx (Nat.lt_of_lt_of_le Hpx.out hsd16) (Nat.lt_of_lt_of_le Hpy.out hsd16) (hgw py))
              have HGw := Lib.hid hgw
              have HGb := Lib.hid hgb
              clear hmx hgw hgb
              go_wp2_with fail
              refine CSt.out.mono ?_
              rintro e w6 ⟨rfl, hset⟩
              have HP6 := Lib.hid (HP5.out.set HGw.out HGb.out Hpy.out Hpx.out hsd16 hset)
              rw [← HPt.out] at HP6
              clear hset CSt kt kb z0 z1
              go_wp2
              go_roundw
              case rel => exact ⟨j + 1, by omega, by go_num, HP6⟩
              case measure => simp [intOf]; omega
            · obtain rfl : j = qn := by omega
              rw [← HGk.out] at HPn
              have kq : (j : Int) ≤ (r : Int) := by omega
              go_wp2
              go_roundw
              case rel => exact ⟨k + 1, (if cr = j then off else off + j * 2), r - j, cr - j, by omega, by go_num, by split <;> rfl, fun h => by rw [if_neg (by omega), HAk.out, HOff.out (by omega)]; omega, by rw [HAk.out]; omega, by omega, HOk1, HPn⟩
              case measure => simp [intOf]; omega
        · have hin : inB q 0 (r : Int) = false := by simp only [inB, Bool.and_eq_false_iff, decide_eq_false_iff_not]; exact Or.inr hqr
          have HF := Lib.hid (HNo.out hin)
          rw [HF.out]
          clear hin HOkk HNo
          go_wp2_with fail
          refine (require_no _ HNw.out).mono ?_
          rintro e wr ⟨T, x, rfl, rfl⟩
          go_wp2
          exact ⟨rfl, Or.inr ⟨rfl, T, x, rfl⟩, HBw.out⟩
      · have hin : inB q 0 (r : Int) = false := by simp only [inB, Bool.and_eq_false_iff, decide_eq_false_iff_not]; exact Or.inl hq0
        have HF := Lib.hid (HNo.out hin)
        rw [HF.out]
        clear hin HOkk HNo
        go_wp2_with fail
        refine (require_no _ HNw.out).mono ?_
        rintro e wr ⟨T, x, rfl, rfl⟩
        go_wp2
        exact ⟨rfl, Or.inr ⟨rfl, T, x, rfl⟩, HBw.out⟩
    · obtain rfl : k = m := by omega
      obtain ⟨gw, hmx, hgw, hgb⟩ := HP.out.mx
      have HMx := Lib.hid hmx
      have HRc := Lib.hid HP.out.rc
      have HBw := Lib.hid HP.out.bel
      have HGw := Lib.hid hgw
      have HGb := Lib.hid hgb
      have HI1 : Hid ((Tryd.prog.info? 59).map (·.size) = some (mat sd2 sd2 gw).size) := infoM
      have HO1 : Hid ((mat sd2 sd2 gw).all (·.oneCell') = true) := mcells_one _ _ _
      have HZ1 : Hid (zeros.size = (mat sd2 sd2 gw).size) := rfl
      obtain ⟨M, hM⟩ : ∃ M, mat sd2 sd2 gw = M := ⟨_, rfl⟩
      rw [hM] at HMx HI1 HO1 HZ1
      have HM := Lib.hid hM
      clear hmx hgw hgb hM HP
      go_wp2_with (first | (refine wpList_load_row rfl 59 _ rfl mb rfl 59 M (0, 0) _ HMx.out Tryd.underlying59 rfl HI1.out ?_) | (refine wpList_store_row rfl 59 _ _ rfl (w.heap.size + 1) M rfl rfl 59 zeros HRc.out HI1.out HZ1.out HO1.out ?_))
      exact bodyPost_ret (results_cell1 (p := 4) (ty := 59) Tryd.results49 _ _ (w.heap.size + 1) 59 M (0, 0) _ rfl (setRow_heap _ _ _ _ _ _ HRc.out) Tryd.underlying59 rfl HI1.out) rfl ⟨Or.inl ⟨HKk.out, gw, by rw [HM.out], HGw.out, HGb.out⟩, setRow_below HBw.out (by omega) _⟩
end Go.Proofs.YthblhibkbcmbaaaDoor

/- Contracts of single functions, and plain lemmas, on which the exact laws of this seat rest; each holds under the conditions that it states. -/
namespace Go.Proofs.YthblhibkbcmbaaaDoor
set_option linter.unusedVariables false
set_option linter.unusedSimpArgs false
open Go.RowKit

theorem catchPi_panicking (pb qb : Nat) (u0 b0 : Value) (t1 t2 : TypeId) (u : TypeId) (pv : Value) (older : List PanicEntry) (w : World) (h1 : w.heap[pb]? = some (.cells #[u0] t1 (0, 0))) (h2 : w.heap[qb]? = some (.cells #[b0] t2 (0, 0))) (hne : pb ≠ qb) :
    CallsD Tryd.prog 66 #[.pointer (some ⟨pb, 0, none⟩), .pointer (some ⟨qb, 0, none⟩)] (.panicking ({ v := .iface u pv, recovered := false } :: older)) w fun e u' w' =>
      e = .returned (.tuple #[]) ∧ u' = .panicking ({ v := .iface u pv, recovered := true } :: older) ∧ w' = ((w.alloc (.cells #[.slice none 0 0] 29)).setCell ⟨pb, 0, none⟩ (.slice none 0 0)).setCell ⟨qb, 0, none⟩ (.bool false) := by
  have hA1 : (w.alloc (.cells #[.slice none 0 0] 29)).heap[pb]? = some (.cells #[u0] t1 (0, 0)) := (Below.heap_alloc _ _ _ (Array.getElem?_eq_some_iff.1 h1).1).trans h1
  have hA2 : (w.alloc (.cells #[.slice none 0 0] 29)).heap[qb]? = some (.cells #[b0] t2 (0, 0)) := (Below.heap_alloc _ _ _ (Array.getElem?_eq_some_iff.1 h2).1).trans h2
  have hc := cell_of_one hA1
  have hz := free_of_one hA1
  have hA3 : ((w.alloc (.cells #[.slice none 0 0] 29)).setCell ⟨pb, 0, none⟩ (.slice none 0 0)).heap[qb]? = some (.cells #[b0] t2 (0, 0)) := (Below.heap_setCell _ _ _ _ (by simp; first | exact hne | exact fun e => hne e.symm)).trans hA2
  have hd2 := cell_of_one hA3
  have hf2 := free_of_one hA3
  refine callsD_of_wpS Tryd.func66 rfl fun c₀ cs hu => ?_
  apply wpS_seq
  apply wpS_region
  simp [wpOpsS, go_sem, recoverD, hu, Tryd.ntmps66, Exit.thenS]
  refine wpS_cond (t := true) (by simp [Act.eval, Array.replicate]) ?_
  simp only [if_true]
  apply wpS_seq
  apply wpS_region
  simp [wpOpsS, go_sem, Exit.thenS]
  apply wpS_region
  simp [wpOpsS, go_sem, hc, hz, hd2, hf2, bodyPostS, results, Tryd.results66]

theorem catchPi_idle (p q : Addr) (w : World) :
    CallsD Tryd.prog 66 #[.pointer (some p), .pointer (some q)] .returning w fun e u' w' => e = .returned (.tuple #[]) ∧ u' = .returning ∧ w' = w := by
  refine callsD_of_wpS Tryd.func66 rfl fun c₀ cs hu => ?_
  apply wpS_seq
  apply wpS_region
  simp [wpOpsS, go_sem, recoverD, hu, Tryd.ntmps66, Exit.thenS]
  refine wpS_cond (t := false) (by simp [Act.eval, Array.replicate]) ?_
  simp only [Bool.false_eq_true, if_false]
  refine wpS_of_wp (wp_skip ?_)
  cases c₀
  simp_all [bodyPostS, results, Tryd.results66]

/-- the work yields -/
theorem attemptPi_yes (K : Nat) (caps : Array Value) (w : World) (Q : Value → World → World → Prop) (hcf : ∀ args (W : World), (callFunc K args).run Tryd.prog W = .ok (.enter K args) W) (hw : ∀ W, Below w.heap.size w W → Calls Tryd.prog K caps W (fun e w' => ∃ (ao : Option Addr) (n cap : Nat), e = .returned (.agg #[.slice ao n cap]) ∧ Q (.agg #[.slice ao n cap]) W w' ∧ Below W.heap.size W w')) :
    Calls Tryd.prog 47 #[.func (.func K) #[] caps] w fun e w' => ∃ (ao : Option Addr) (n cap : Nat) (w1 : World), e = .returned (.tuple #[.agg #[.slice ao n cap], .bool true]) ∧ Q (.agg #[.slice ao n cap]) ((w.alloc (.cells #[.slice none 0 0] 29)).alloc (.cells #[.bool false] 4)) w1 ∧ Below w.heap.size w w1 ∧ w' = (w1.setCell ⟨w.heap.size, 0, none⟩ (.slice ao n cap)).setCell ⟨w.heap.size + 1, 0, none⟩ (.bool true) ∧ w1.heap[w.heap.size]? = some (.cells #[.slice none 0 0] 29 (0, 0)) ∧ w1.heap[w.heap.size + 1]? = some (.cells #[.bool false] 4 (0, 0)) := by
  have hmf : ∀ (fn : Fn) (first cap : Array Value) (w : World), (Instr.makeFunc fn first cap).run Tryd.prog w = .ok (.func fn first cap) w := fun _ _ _ _ => rfl
  have hb0 := Joins.below_alloc2 w (.cells #[.slice none 0 0] 29) (.cells #[.bool false] 4)
  have CW := Lib.hid (hw _ hb0)
  have h1 : ((w.alloc (.cells #[.slice none 0 0] 29)).alloc (.cells #[.bool false] 4)).heap[w.heap.size]? = some (.cells #[.slice none 0 0] 29 (0, 0)) := by
    rw [Below.heap_alloc _ _ _ (by simp)]; exact heap_alloc_last w _
  have h2 : ((w.alloc (.cells #[.slice none 0 0] 29)).alloc (.cells #[.bool false] 4)).heap[w.heap.size + 1]? = some (.cells #[.bool false] 4 (0, 0)) := heap_alloc2_new _ _ _
  have H1 := Lib.hid h1
  have H2 := Lib.hid h2
  have B0 := Lib.hid hb0
  clear h1 h2 hb0 hw
  go_enter_defers Tryd.func47, Tryd.ntmps47
  go_wp2_with fail
  refine CW.out.mono ?_
  rintro e w1 ⟨ao, n, cap, rfl, hQ, hb⟩
  have r1 := (hb.block w.heap.size (by simp; omega)).trans H1.out
  have r2 := (hb.block (w.heap.size + 1) (by simp)).trans H2.out
  have c1 := cell_of_one r1
  have c2 := cell_of_one r2
  have f1 := free_of_one r1
  have f2 := free_of_one r2
  have HQ := Lib.hid hQ
  have HB := Lib.hid hb
  have R1 := Lib.hid r1
  have R2 := Lib.hid r2
  clear hQ hb r1 r2
  go_wp2_with fail
  have x1 : ((w1.setCell ⟨w.heap.size, 0, none⟩ (.slice ao n cap)).setCell ⟨w.heap.size + 1, 0, none⟩ (.bool true)).cell? ⟨w.heap.size, 0, none⟩ = some (.slice ao n cap) := by
    rw [World.cell?_setCell_other _ _ _ _ (by intro e; have := congrArg Addr.block e; simp at this)]
    exact cell_of_one (one_setCell R1.out)
  have r3 : (w1.setCell ⟨w.heap.size, 0, none⟩ (.slice ao n cap)).heap[w.heap.size + 1]? = some (.cells #[.bool false] 4 (0, 0)) := (Below.heap_setCell _ _ _ _ (by simp)).trans R2.out
  have x2 : ((w1.setCell ⟨w.heap.size, 0, none⟩ (.slice ao n cap)).setCell ⟨w.heap.size + 1, 0, none⟩ (.bool true)).cell? ⟨w.heap.size + 1, 0, none⟩ = some (.bool true) := cell_of_one (one_setCell r3)
  refine leaves_cons (f := 66) (args := #[.pointer (some ⟨w.heap.size, 0, none⟩), .pointer (some ⟨w.heap.size + 1, 0, none⟩)]) (by simp) (by simp [go_sem]) ?_
  refine (catchPi_idle ⟨w.heap.size, 0, none⟩ ⟨w.heap.size + 1, 0, none⟩ _).mono ?_
  rintro e u' w'' ⟨rfl, rfl, rfl⟩
  refine ⟨.tuple #[.agg #[.slice ao n cap], .bool true], by simp [results, Tryd.results47, go_sem, x1, x2], ao, n, cap, w1, rfl, HQ.out, B0.out.trans (HB.out.mono (by simp; omega)), rfl, R1.out, R2.out⟩

set_option maxHeartbeats 1000000 in
set_option maxRecDepth 100000 in
/-- the work is given up -/
theorem attemptPi_no (K : Nat) (caps : Array Value) (w : World) (hcf : ∀ args (W : World), (callFunc K args).run Tryd.prog W = .ok (.enter K args) W) (hw : ∀ W, Below w.heap.size w W → Calls Tryd.prog K caps W (fun e w' => (∃ T x, e = .panicked [{ v := .iface T x, recovered := false }]) ∧ Below W.heap.size W w')) :
    Calls Tryd.prog 47 #[.func (.func K) #[] caps] w fun e w' => e = .returned (.tuple #[.agg #[.slice none 0 0], .bool false]) ∧ Below w.heap.size w w' := by
  have hmf : ∀ (fn : Fn) (first cap : Array Value) (w : World), (Instr.makeFunc fn first cap).run Tryd.prog w = .ok (.func fn first cap) w := fun _ _ _ _ => rfl
  have hb0 := Joins.below_alloc2 w (.cells #[.slice none 0 0] 29) (.cells #[.bool false] 4)
  have CW := Lib.hid (hw _ hb0)
  have h1 : ((w.alloc (.cells #[.slice none 0 0] 29)).alloc (.cells #[.bool false] 4)).heap[w.heap.size]? = some (.cells #[.slice none 0 0] 29 (0, 0)) := by
    rw [Below.heap_alloc _ _ _ (by simp)]; exact heap_alloc_last w _
  have h2 : ((w.alloc (.cells #[.slice none 0 0] 29)).alloc (.cells #[.bool false] 4)).heap[w.heap.size + 1]? = some (.cells #[.bool false] 4 (0, 0)) := heap_alloc2_new _ _ _
  have H1 := Lib.hid h1
  have H2 := Lib.hid h2
  have B0 := Lib.hid hb0
  clear h1 h2 hb0 hw
  go_enter_defers Tryd.func47, Tryd.ntmps47
  go_wp2_with fail
  refine CW.out.mono ?_
  rintro e w1 ⟨⟨T, x, rfl⟩, hb⟩
  have r1 := (hb.block w.heap.size (by simp; omega)).trans H1.out
  have r2 := (hb.block (w.heap.size + 1) (by simp)).trans H2.out
  have HB := Lib.hid (B0.out.trans (hb.mono (by simp; omega)))
  clear hb
  go_wp2_with fail
  have a1 : (w1.alloc (.cells #[.slice none 0 0] 29)).heap[w.heap.size]? = some (.cells #[.slice none 0 0] 29 (0, 0)) := (Below.heap_alloc _ _ _ (Array.getElem?_eq_some_iff.1 r1).1).trans r1
  have a2 : (w1.alloc (.cells #[.slice none 0 0] 29)).heap[w.heap.size + 1]? = some (.cells #[.bool false] 4 (0, 0)) := (Below.heap_alloc _ _ _ (Array.getElem?_eq_some_iff.1 r2).1).trans r2
  have r3 : ((w1.alloc (.cells #[.slice none 0 0] 29)).setCell ⟨w.heap.size, 0, none⟩ (.slice none 0 0)).heap[w.heap.size + 1]? = some (.cells #[.bool false] 4 (0, 0)) := (Below.heap_setCell _ _ _ _ (by simp)).trans a2
  have x1 : (((w1.alloc (.cells #[.slice none 0 0] 29)).setCell ⟨w.heap.size, 0, none⟩ (.slice none 0 0)).setCell ⟨w.heap.size + 1, 0, none⟩ (.bool false)).cell? ⟨w.heap.size, 0, none⟩ = some (.slice none 0 0) := by
    rw [World.cell?_setCell_other _ _ _ _ (by intro e; have := congrArg Addr.block e; simp at this)]
    exact cell_of_one (one_setCell a1)
  have x2 : (((w1.alloc (.cells #[.slice none 0 0] 29)).setCell ⟨w.heap.size, 0, none⟩ (.slice none 0 0)).setCell ⟨w.heap.size + 1, 0, none⟩ (.bool false)).cell? ⟨w.heap.size + 1, 0, none⟩ = some (.bool false) := cell_of_one (one_setCell r3)
  have hs := HB.out.size
  refine leaves_cons (f := 66) (args := #[.pointer (some ⟨w.heap.size, 0, none⟩), .pointer (some ⟨w.heap.size + 1, 0, none⟩)]) (by simp) (by simp [go_sem]) ?_
  refine (catchPi_panicking w.heap.size (w.heap.size + 1) (.slice none 0 0) (.bool false) _ _ T x [] _ r1 r2 (by simp)).mono ?_
  rintro e u' w'' ⟨rfl, rfl, rfl⟩
  refine ⟨.tuple #[.agg #[.slice none 0 0], .bool false], by simp [results, Tryd.results47, go_sem, x1, x2], rfl, ((HB.out.alloc hs _).setCell (p := ⟨w.heap.size, 0, none⟩) (Nat.le_refl _) _).setCell (p := ⟨w.heap.size + 1, 0, none⟩) (by simp) _⟩

end Go.Proofs.YthblhibkbcmbaaaDoor

/- Contracts of single functions, and plain lemmas, on which the exact laws of this seat rest; each holds under the conditions that it states. -/
namespace Go.Proofs.YthblhibkbcmbaaaDoor
set_option linter.unusedVariables false
set_option linter.unusedSimpArgs false
open Go.RowKit
attribute [local go_sem] Oper.semAt_some

theorem blackB_nat {a b : Nat} {g : Nat → Nat} {x y : Nat} (hx : x < a) (hy : y < b) : blackB a b g (x : Int) (y : Int) = (g y).testBit x := by
  unfold blackB
  rw [show hasB a b (x : Int) (y : Int) = true from by unfold hasB; simp only [Bool.and_eq_true, decide_eq_true_eq]; omega]
  simp

set_option maxHeartbeats 8000000 in
set_option maxRecDepth 100000 in
theorem pfWork_yes (pc pn pv c n : Nat) (v : Value) (rs : List Int) (w : World) (hc : c < 4) (hn : n ≤ 4) (hQ : QvP w) (hNr : NoRes w) (hl : rs.length ≤ 1048576) (hv : SlN w v rs)
    (hpc : w.cell? ⟨pc, 0, none⟩ = some (.int .i64 (c : Int))) (hpn : w.cell? ⟨pn, 0, none⟩ = some (.int .i64 (n : Int))) (hpv : w.cell? ⟨pv, 0, none⟩ = some v)
    (hok : okK (2 ^ n * 2 ^ n) rs rs.length = true) (heq : decide (rnL (alF c n (gK (cvF c n) rs rs.length)) (2 ^ n * 2 ^ n) = rs) = true) :
    Calls Tryd.prog 48 #[.pointer (some ⟨pc, 0, none⟩), .pointer (some ⟨pn, 0, none⟩), .pointer (some ⟨pv, 0, none⟩)] w (TookPic w (mkPic (2 ^ n) (2 ^ n) (gK (cvF c n) rs rs.length))) := by
  have hPl : ∃ P, mkPic (2 ^ n) (2 ^ n) (gK (cvF c n) rs rs.length) = P := ⟨_, rfl⟩
  have hT2 : inB (c : Int) 0 3 = true ∧ inB (n : Int) 0 4 = true := by simp [inB]; omega
  have CT := Lib.hid (fun W => requiredTour_yes (c : Int) (n : Int) W hT2.1 hT2.2)
  have CP : Hid (∀ W, Below w.heap.size w W → Calls Tryd.prog 49 #[.agg #[.int .i64 (c : Int), .int .i64 (n : Int)], v] W (Painted W (2 ^ n) (gK (cvF c n) rs rs.length) true)) := fun W hb => by
    have := painted_any c n v rs W hc hn (hQ.below hb) (hNr.below hb) hl (hv.below hb)
    rwa [hok] at this
  have CR0 : Hid (∀ (gw : Nat → Nat), (∀ j, gw j < 4294967296) → (∀ y x, y < 2 ^ n → x < 2 ^ n → (gw y).testBit x = gK (cvF c n) rs rs.length y x) → ∀ W, Below w.heap.size w W → Calls Tryd.prog 39 #[.agg #[.int .i64 (c : Int), .int .i64 (n : Int)], .agg (mat (2 ^ n) (2 ^ n) gw)] W (fun e w' => ∃ v, e = .returned v ∧ OwnN w' W.heap.size v (rnL (alF c n (gK (cvF c n) rs rs.length)) (2 ^ n * 2 ^ n)) ∧ Below W.heap.size W w')) := fun gw h1 h2 W hb => by
    refine runs_any (mat (2 ^ n) (2 ^ n) gw) c n _ W hc hn (hQ.below hb) rfl fun x y W2 hx hy => ?_
    have := black_any (mat (2 ^ n) (2 ^ n) gw) (2 ^ n) (2 ^ n) gw x y W2 rfl (pow_le16 hn) (pow_le16 hn) h1
    rw [blackB_nat hx hy, h2 y x hy hx] at this
    exact this
  have HSl := Lib.hid (fun W (hb : Below w.heap.size w W) => SlN.below hv hb)
  have CPi : Hid (∀ (gw : Nat → Nat), (∀ j, gw j < 4294967296) → (∀ y x, y < 2 ^ n → x < 2 ^ n → (gw y).testBit x = gK (cvF c n) rs rs.length y x) → ∀ W, Calls Tryd.prog 51 #[.agg (mat (2 ^ n) (2 ^ n) gw)] W (TookPic W (mkPic (2 ^ n) (2 ^ n) (gK (cvF c n) rs rs.length)))) := fun gw h1 h2 W => by
    have := picture_any (mat (2 ^ n) (2 ^ n) gw) (2 ^ n) (2 ^ n) gw W rfl (pow_le16 hn) (pow_le16 hn) h1
    rwa [mkPic_congr (g := gK (cvF c n) rs rs.length) (fun y hy x hx => by rw [blackB_nat hx hy]; exact h2 y x hy hx)] at this
  have CEq : Hid (∀ (u : Value) (xs : List Int) (W : World), xs.length ≤ 1048576 → SlN W u xs → Below w.heap.size w W → Calls Tryd.prog 50 #[u, v] W (SaysB (decide (xs = rs)) W)) := fun u xs W h1 hu hb => equalN_any u v xs rs W h1 hl hu (hv.below hb)
  have hRl := (rnL_len (alF c n (gK (cvF c n) rs rs.length)) (2 ^ n * 2 ^ n)).2
  have h256 : 2 ^ n * 2 ^ n ≤ 256 := Nat.mul_le_mul (pow_le16 hn) (pow_le16 hn)
  have HEqd := Lib.hid heq
  obtain ⟨P, hP⟩ := hPl
  rw [hP] at CPi ⊢
  unfold TookPic at CPi ⊢
  obtain ⟨R, hR⟩ : ∃ R, rnL (alF c n (gK (cvF c n) rs rs.length)) (2 ^ n * 2 ^ n) = R := ⟨_, rfl⟩
  rw [hR] at CR0 hRl HEqd
  obtain ⟨G, hG⟩ : ∃ G, gK (cvF c n) rs rs.length = G := ⟨_, rfl⟩
  rw [hG] at CP CR0 CPi
  obtain ⟨sd2, hsd⟩ : ∃ s, 2 ^ n = s := ⟨_, rfl⟩
  rw [hsd] at CP CR0 h256 hRl CPi
  obtain ⟨ao, vcap, rfl⟩ := hv.form
  have hRL : R.length ≤ 1048576 := by omega
  replace CEq : Hid (∀ (u : Value) (W : World), SlN W u R → Below w.heap.size w W → Calls Tryd.prog 50 #[u, .slice ao rs.length vcap] W (SaysB true W)) := fun u W hu hb => by
    have := CEq.out u R W hRL hu hb
    rwa [HEqd.out] at this
  obtain ⟨m, hm⟩ : ∃ m, rs.length = m := ⟨_, rfl⟩
  rw [hm] at CEq CP hpv
  unfold Painted at CP
  have hb0 := Joins.below_alloc1 w (.cells #[.slice none 0 0] 29)
  have hp0 := heap_alloc_last w (.cells #[.slice none 0 0] 29)
  obtain ⟨W0, hW0⟩ : ∃ W0, w.alloc (.cells #[.slice none 0 0] 29) = W0 := ⟨_, rfl⟩
  rw [hW0] at hb0 hp0
  have cc := cell_kept hb0 hpc
  have cn := cell_kept hb0 hpn
  have HB0 := Lib.hid hb0
  have HP0 := Lib.hid hp0
  have HW := Lib.hid hW0
  have hs0 : W0.heap.size = w.heap.size + 1 := by rw [← hW0]; simp
  have Hs0 := Lib.hid hs0
  have HVc0 : Hid (∀ W, Below w.heap.size w W → W.cell? ⟨pv, 0, none⟩ = some (.slice ao m vcap)) := fun W hb => cell_kept hb hpv
  clear hT2 hb0 hp0 hW0 hs0 hpc hpn hpv hv hQ hNr hR hG hP hsd hm hc hn h256 hRl heq HEqd hok hl hRL
  go_enter Tryd.func48, Tryd.ntmps48
  go_upto_region 1 with fail
  rw [HW.out]
  go_wp2_with fail
  refine (CT.out _).mono ?_
  rintro e w1 ⟨rfl, hb1⟩
  have hbA := Joins.below_alloc1 w1 (.cells #[.int .i64 (c : Int), .int .i64 (n : Int)] 66)
  have hpA := heap_alloc_last w1 (.cells #[.int .i64 (c : Int), .int .i64 (n : Int)] 66)
  obtain ⟨W2, hW2⟩ : ∃ W2, w1.alloc (.cells #[.int .i64 (c : Int), .int .i64 (n : Int)] 66) = W2 := ⟨_, rfl⟩
  rw [hW2] at hbA hpA
  have HB2 : Hid (Below W0.heap.size W0 W2) := hb1.trans (hbA.mono hb1.size)
  have HBw2 : Hid (Below w.heap.size w W2) := HB0.out.trans (HB2.out.mono HB0.out.size)
  have c0 : W2.cell? ⟨w1.heap.size, 0, none⟩ = some (.int .i64 (c : Int)) := by rw [Joins.cell_of_block hpA 0]; rfl
  have c1 : W2.cell? ⟨w1.heap.size, 1, none⟩ = some (.int .i64 (n : Int)) := by rw [Joins.cell_of_block hpA 1]; rfl
  have cv := HVc0.out W2 HBw2.out
  have HTc2 : Hid (∀ W, Below W2.heap.size W2 W → W.cell? ⟨w1.heap.size, 0, none⟩ = some (.int .i64 (c : Int)) ∧ W.cell? ⟨w1.heap.size, 1, none⟩ = some (.int .i64 (n : Int))) := fun W hb => ⟨cell_kept hb c0, cell_kept hb c1⟩
  have HW2 := Lib.hid hW2
  clear hb1 hbA hpA hW2 cc cn
  go_upto_region 2 with fail
  rw [HW2.out]
  go_wp2_with fail
  refine (CP.out _ HBw2.out).mono ?_
  rintro e w3 ⟨hres, hb3⟩
  rcases hres with ⟨_, gw, rfl, hg1, hg2⟩ | ⟨h9, _⟩
  case inr => cases h9
  have CR := Lib.hid (CR0.out gw hg1 hg2)
  have CPm := Lib.hid (CPi.out gw hg1 hg2)
  have HI : Hid ((Tryd.prog.info? 59).map (·.size) = some (mat sd2 sd2 gw).size) := infoM
  have HO : Hid ((mat sd2 sd2 gw).all (·.oneCell') = true) := mcells_one _ _ _
  have HZ : Hid (zeros.size = (mat sd2 sd2 gw).size) := rfl
  obtain ⟨M, hM⟩ : ∃ M, mat sd2 sd2 gw = M := ⟨_, rfl⟩
  rw [hM] at CR CPm HI HO HZ ⊢
  have HB3 := Lib.hid hb3
  clear hg1 hg2 hM hb3 c0 c1 cv
  go_wp2_with (refine wpList_store_new w3 rfl 59 _ _ rfl M rfl rfl 59 zeros HI.out HZ.out HO.out ?_; refine Hid.out ?_)
  have hbm := Joins.below_alloc1 w3 (.cells M 59)
  have hpm := heap_alloc_last w3 (.cells M 59)
  have hbm2 : Below W2.heap.size W2 (w3.alloc (.cells M 59)) := HB3.out.trans (hbm.mono HB3.out.size)
  refine Lib.hid ?_
  obtain ⟨mb, hmb⟩ : ∃ z, w3.heap.size = z := ⟨_, rfl⟩
  obtain ⟨Wm, hWm⟩ : ∃ W, w3.alloc (.cells M 59) = W := ⟨_, rfl⟩
  rw [hWm, hmb] at hpm
  rw [hWm] at hbm2
  rw [hWm, hmb]
  have HBm : Hid (Below w.heap.size w Wm) := HBw2.out.trans (hbm2.mono HBw2.out.size)
  have HTc : Hid (∀ W, Below Wm.heap.size Wm W → W.cell? ⟨w1.heap.size, 0, none⟩ = some (.int .i64 (c : Int)) ∧ W.cell? ⟨w1.heap.size, 1, none⟩ = some (.int .i64 (n : Int))) := fun W hb => HTc2.out W (hbm2.trans (hb.mono hbm2.size))
  have HMx : Hid (∀ W, Below Wm.heap.size Wm W → W.heap[mb]? = some (.cells M 59 (0, 0))) := fun W hb => (hb.block mb (Array.getElem?_eq_some_iff.1 hpm).1).trans hpm
  have HVc : Hid (∀ W, Below Wm.heap.size Wm W → W.cell? ⟨pv, 0, none⟩ = some (.slice ao m vcap)) := fun W hb => HVc0.out W (HBm.out.trans (hb.mono HBm.out.size))
  have HRx : Hid (∀ W, Below Wm.heap.size Wm W → W.heap[w.heap.size]? = some (.cells #[.slice none 0 0] 29 (0, 0))) := fun W hb => by
    have h2 : Below W0.heap.size W0 W := HB2.out.trans ((hbm2.trans (hb.mono hbm2.size)).mono HB2.out.size)
    exact (h2.block _ (by rw [Hs0.out]; omega)).trans HP0.out
  clear hpm hbm hbm2 hmb hWm HTc2 HVc0 HB3 HBw2 HB2 HP0 HB0 Hs0 CP CT CR0 HW HW2
  go_upto_region 3 with fail
  refine wp_region_inv_at (by kernel_rfl) (fun A0 L A W => ∃ (b0 b1 b2 b3 b4 b5 : Bool) (v12 v13 v14 v15 v16 v17 : Value), L = #[b0, b1, b2, b3, b4, b5] ∧ A = ((((((A0.put (some 12) v12).put (some 13) v13).put (some 14) v14).put (some 15) v15).put (some 16) v16).put (some 17) v17) ∧ (Below Wm.heap.size Wm W) ∧ Hid (b0 = true → v12 = .agg #[.int .i64 (c : Int), .int .i64 (n : Int)]) ∧ Hid (b1 = true → v13 = .agg M) ∧ Hid (b2 = true → b4 = false → ∃ v', v14 = v' ∧ OwnN W w.heap.size v' R) ∧ Hid (b3 = true → v15 = .slice ao m vcap) ∧ Hid (b4 = true → v16 = .bool true) ∧ Hid (b5 = true → v17 = .tuple #[])) ?_ ?_ ?_
  · intro A0
    refine ⟨false, false, false, false, false, false, A0.tmps.getD 12 undef, A0.tmps.getD 13 undef, A0.tmps.getD 14 undef, A0.tmps.getD 15 undef, A0.tmps.getD 16 undef, A0.tmps.getD 17 undef, rfl, (by simp only [put_self]), (Below.refl _ _).drew, Lib.hid (fun hf => by cases hf), Lib.hid (fun hf => by cases hf), Lib.hid (fun hf => by cases hf), Lib.hid (fun hf => by cases hf), Lib.hid (fun hf => by cases hf), Lib.hid (fun hf => by cases hf)⟩
  · intro L A W hI i hi o ho K' hK
    have hlt := (ready_left hi).1
    have hun := (ready_left hi).2
    have haf := ready_after hi ho
    clear hi
    obtain ⟨b0, b1, b2, b3, b4, b5, v12, v13, v14, v15, v16, v17, rfl, rfl, hB, h0, h1, h2, h3, h4, h5⟩ := hI
    have hc : i = 0 ∨ i = 1 ∨ i = 2 ∨ i = 3 ∨ i = 4 ∨ i = 5 := by
      simp at hlt
      omega
    have q0 := (HTc.out W hB).1
    have q1 := (HTc.out W hB).2
    have qM := HMx.out W hB
    have qv := HVc.out W hB
    rcases hc with rfl | rfl | rfl | rfl | rfl | rfl
    all_goals (obtain rfl := Option.some.inj ho; clear ho; simp [Region.binds] at haf hun; (try simp only [List.getElem_toArray, List.getElem_cons_zero, List.getElem_cons_succ]); simp only [Act.put, List.setIfInBounds_toArray, List.set_cons_zero, List.set_cons_succ])
    · -- operation 0
      replace hK := Lib.hid hK
      subst hun
      go_simp
      exact hK.out _ _ ⟨true, b1, b2, b3, b4, b5, .agg #[.int .i64 (c : Int), .int .i64 (n : Int)], v13, v14, v15, v16, v17, rfl, (by simp only [Act.put, List.setIfInBounds_toArray, List.set_cons_zero, List.set_cons_succ]), hB, Lib.hid (fun _ => rfl), h1, h2, h3, h4, h5⟩
    · -- operation 1
      replace hK := Lib.hid hK
      subst hun
      rw [if_pos (by simp [Region.wanted])]
      refine wp_load_row 59 _ rfl mb rfl 59 M (0, 0) _ qM Tryd.underlying59 rfl HI.out ?_
      exact hK.out _ _ ⟨b0, true, b2, b3, b4, b5, v12, .agg M, v14, v15, v16, v17, rfl, (by simp only [Act.put, List.setIfInBounds_toArray, List.set_cons_zero, List.set_cons_succ]), hB, h0, Lib.hid (fun _ => rfl), h2, h3, h4, h5⟩
    · -- operation 2
      replace hK := Lib.hid hK
      obtain rfl := (h0.out (by simp only [haf])).symm
      obtain rfl := (h1.out (by simp only [haf])).symm
      subst hun
      go_simp
      refine (CR.out W (HBm.out.trans (hB.mono HBm.out.size))).mono ?_
      rintro e W' ⟨v', rfl, fo0, hb⟩
      have fo := OwnN.mono fo0 (Nat.le_trans HBm.out.size hB.size)
      have hkept := fun kb (hk : kb < W.heap.size) => hb.block kb hk
      exact hK.out _ _ ⟨b0, b1, true, b3, b4, b5, .agg #[.int .i64 (c : Int), .int .i64 (n : Int)], .agg M, v', v15, v16, v17, rfl, (by simp only [Act.put, List.setIfInBounds_toArray, List.set_cons_zero, List.set_cons_succ]), hB.trans (hb.mono hB.size), Lib.hid (fun _ => rfl), Lib.hid (fun _ => rfl), Lib.hid (fun _ _ => ⟨v', rfl, fo⟩), h3, h4, h5⟩
    · -- operation 3
      replace hK := Lib.hid hK
      subst hun
      go_simp
      exact hK.out _ _ ⟨b0, b1, b2, true, b4, b5, v12, v13, v14, .slice ao m vcap, v16, v17, rfl, (by simp only [Act.put, List.setIfInBounds_toArray, List.set_cons_zero, List.set_cons_succ]), hB, h0, h1, h2, Lib.hid (fun _ => rfl), h4, h5⟩
    · -- operation 4
      replace hK := Lib.hid hK
      obtain ⟨v', rfl, fo⟩ := h2.out (by simp only [haf]) (by first | exact hun | simp only [haf])
      obtain rfl := (h3.out (by simp only [haf])).symm
      subst hun
      go_simp
      obtain ⟨v', hv'⟩ : ∃ z, z = v14 := ⟨_, rfl⟩
      subst hv'
      refine (CEq.out v' W (OwnN.sl fo) (HBm.out.trans (hB.mono HBm.out.size))).mono ?_
      rintro e W' ⟨rfl, hb⟩
      have hkept := fun kb (hk : kb < W.heap.size) => hb.block kb hk
      exact hK.out _ _ ⟨b0, b1, b2, b3, true, b5, v12, v13, v', .slice ao m vcap, .bool true, v17, rfl, (by simp only [Act.put, List.setIfInBounds_toArray, List.set_cons_zero, List.set_cons_succ]), hB.trans (hb.mono hB.size), h0, h1, Lib.hid (fun _ hu => by cases hu), Lib.hid (fun _ => rfl), Lib.hid (fun _ => rfl), h5⟩
    · -- operation 5
      replace hK := Lib.hid hK
      obtain rfl := (h4.out (by simp only [haf])).symm
      subst hun
      go_simp
      refine (require_yes W).mono ?_
      rintro e W' ⟨rfl, hb⟩
      replace hb : Below W.heap.size W W' := by rw [hb]; exact Below.refl _ _
      have hkept := fun kb (hk : kb < W.heap.size) => hb.block kb hk
      exact hK.out _ _ ⟨b0, b1, b2, b3, b4, true, v12, v13, v14, v15, .bool true, .tuple #[], rfl, (by simp only [Act.put, List.setIfInBounds_toArray, List.set_cons_zero, List.set_cons_succ]), hB.trans (hb.mono hB.size), h0, h1, Lib.hid (fun hx hu => by obtain ⟨v', e1, fx⟩ := h2.out hx hu; exact ⟨v', e1, OwnN.below fx hb⟩), h3, Lib.hid (fun _ => rfl), Lib.hid (fun _ => rfl)⟩
  intro L A W hI hr
  obtain ⟨b0, b1, b2, b3, b4, b5, v12, v13, v14, v15, v16, v17, rfl, rfl, hB, h0, h1, h2, h3, h4, h5⟩ := hI
  have d0 := ready_done hr 0 _ rfl (by simp [Region.binds])
  have d1 := ready_done hr 1 _ rfl (by simp [Region.binds])
  have d3 := ready_done hr 3 _ rfl (by simp [Region.binds])
  simp at d0 d1 d3
  subst d0 d1 d3
  have d2 := ready_done hr 2 _ rfl (by simp [Region.binds])
  simp at d2
  subst d2
  have d4 := ready_done hr 4 _ rfl (by simp [Region.binds])
  simp at d4
  subst d4
  have d5 := ready_done hr 5 _ rfl (by simp [Region.binds])
  simp at d5
  subst d5
  obtain rfl := (h0.out rfl).symm
  obtain rfl := (h1.out rfl).symm
  obtain rfl := (h3.out rfl).symm
  obtain rfl := (h4.out rfl).symm
  obtain rfl := (h5.out rfl).symm
  simp only [Act.put, List.setIfInBounds_toArray, List.set_cons_zero, List.set_cons_succ]
  clear hr h0 h1 h2 h3 h4 h5
  have HB9 := Lib.hid (HBm.out.trans (hB.mono HBm.out.size))
  have HM9 := Lib.hid (HMx.out _ hB)
  have HR9 := Lib.hid (HRx.out _ hB)
  clear hB
  go_wp2_with (first | (refine wpList_load_row rfl 59 _ rfl mb rfl 59 M (0, 0) _ HM9.out Tryd.underlying59 rfl HI.out ?_))
  refine (CPm.out _).mono ?_
  rintro e w5 ⟨g5, c5, rfl, hown, hb5⟩
  have hp5 := (hb5.block _ (Array.getElem?_eq_some_iff.1 HR9.out).1).trans HR9.out
  have hfr : w5.frozen? ⟨w.heap.size, 0, none⟩ = false := free_of_one hp5
  have hc2 : w5.cell? ⟨w.heap.size, 0, none⟩ = some (.slice none 0 0) := cell_of_one hp5
  have HO5 := Lib.hid (own_set (u := .slice (some ⟨g5, 0, none⟩) P.length c5) (Joins.ownsRow_le hown HB9.out.size) hp5 (by decide))
  have P5 := Lib.hid hp5
  have B5 := Lib.hid (HB9.out.trans (hb5.mono HB9.out.size))
  clear hown hp5 hb5
  go_wp2_with fail
  refine bodyPost_ret (v := .agg #[.slice (some ⟨g5, 0, none⟩) P.length c5]) (by simp [results, Tryd.results48, go_sem, cell_of_one (one_setCell P5.out)]) rfl ⟨g5, c5, rfl, HO5.out, B5.out.setCell (Nat.le_refl _) _⟩
end Go.Proofs.YthblhibkbcmbaaaDoor
