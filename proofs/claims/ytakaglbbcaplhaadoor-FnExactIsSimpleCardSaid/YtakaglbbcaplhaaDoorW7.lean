/- Contracts of single functions, and plain lemmas, on which the exact laws of this seat rest; each holds under the conditions that it states. -/
import Derived.Test.YtakaglbbcaplhaaDoorW6
import Derived.Test.YtakaglbbcaplhaaDoorQc
namespace Go.Proofs.YtakaglbbcaplhaaDoor
set_option linter.unusedVariables false
set_option linter.unusedSimpArgs false
open Go.RowKit

theorem spL_in (f : Nat → Nat → Bool) (wd n : Nat) (hw : 1 ≤ wd) (q : Int × Int) (h : q ∈ spL f wd (wd * n)) : (0 ≤ q.1 ∧ q.1 < (wd : Int)) ∧ (0 ≤ q.2 ∧ q.2 < (n : Int)) := by
  unfold spL at h
  obtain ⟨i, hi, e⟩ := List.mem_filterMap.1 h
  rw [List.mem_range] at hi
  split at e
  · obtain rfl := Option.some.inj e
    have h1 : i % wd < wd := Nat.mod_lt _ hw
    have h2 : i / wd < n := Nat.div_lt_of_lt_mul hi
    exact ⟨⟨Int.natCast_nonneg _, Int.ofNat_lt.2 h1⟩, Int.natCast_nonneg _, Int.ofNat_lt.2 h2⟩
  · cases e
theorem Spots.other {W : World} {sb g : Nat} {L : List (Int × Int)} (h : Spots W sb L) (hne : sb ≠ g) (j : Nat) (v : Value) : Spots (W.setCell ⟨g, j, none⟩ v) sb L := by
  have hb : (W.setCell ⟨g, j, none⟩ v).heap[sb]? = W.heap[sb]? := heap_setCell_other W ⟨g, j, none⟩ sb v (fun e => hne e)
  refine ⟨by have := h.1; simpa using this, fun i hi => ⟨?_, ?_⟩⟩
  · rw [World.cell?_of_block hb]; exact (h.2 i hi).1
  · rw [World.cell?_of_block hb]; exact (h.2 i hi).2
/-- the cells of a row of bools -/
def BoolsAt (W : World) (gl N : Nat) (q : Nat → Bool) : Prop := gl < W.heap.size ∧ ∀ k, k < N → W.cell? ⟨gl, k, none⟩ = some (.bool (q k))
theorem BoolsAt.other {W : World} {gl N g : Nat} {q : Nat → Bool} (h : BoolsAt W gl N q) (hne : gl ≠ g) (j : Nat) (v : Value) : BoolsAt (W.setCell ⟨g, j, none⟩ v) gl N q := by
  have hb : (W.setCell ⟨g, j, none⟩ v).heap[gl]? = W.heap[gl]? := heap_setCell_other W ⟨g, j, none⟩ gl v (fun e => hne e)
  refine ⟨by have := h.1; simpa using this, fun k hk => ?_⟩
  rw [World.cell?_of_block hb]
  exact h.2 k hk

theorem labL_len (ps : List (Nat → Bool)) (N : Nat) : (labL ps N).length = N := by simp [labL]
theorem labM_len (ps : List (Nat → Bool)) (q : Nat → Bool) (t N : Nat) : (labM ps q t N).length = N := by simp [labM]
open Classical in
/-- the list of a part, as a row of bools -/
theorem part_list (ss : List ByteArray) (V : VP ss) (e8 : Bool) (x y : Int) (bs : List Bool)
    (hr : ∀ X Y : Nat, X < (row0 ss).size → Y < ss.length → (bs.getD (Y * (row0 ss).size + X) false = true ↔ Reach (pixI ss) (stepL e8) [(x, y)] ((X : Int), (Y : Int)))) :
    pixL (mkPic (row0 ss).size ss.length (fun Y X => bs.getD (Y * (row0 ss).size + X) false)) (row0 ss).size ((row0 ss).size * ss.length) = (List.range ((row0 ss).size * ss.length)).map (partP (pixI ss) (stepL e8) (row0 ss).size (x, y)) := by
  unfold pixL
  refine List.map_congr_left fun k hk => ?_
  rw [List.mem_range] at hk
  have h1 : k % (row0 ss).size < (row0 ss).size := Nat.mod_lt _ V.w1
  have h2 : k / (row0 ss).size < ss.length := Nat.div_lt_of_lt_mul hk
  rw [mkPic_pix _ _ _ h2 h1]
  unfold partP
  have := hr _ _ h1 h2
  cases e : bs.getD (k / (row0 ss).size * (row0 ss).size + k % (row0 ss).size) false with
  | true => rw [e] at this; exact (decide_eq_true (this.1 rfl)).symm
  | false =>
    rw [e] at this
    have hn : ¬ Reach (pixI ss) (stepL e8) [(x, y)] (((k % (row0 ss).size : Nat) : Int), ((k / (row0 ss).size : Nat) : Int)) := fun h => by
      have := this.2 h
      cases this
    exact (decide_eq_false hn).symm

set_option maxHeartbeats 8000000 in
set_option maxRecDepth 100000 in
theorem l05Labels_any (pb po : Nat) (ss : List ByteArray) (e8 : Bool) (w : World) (hp : PicAt w pb po ss) :
    Calls Tryd.prog 62 #[.pointer (some ⟨pb, po, none⟩), .bool e8] w (fun e w' => ∃ g PS, PS = partsP (pixI ss) (stepL e8) (row0 ss).size (spL (pixF ss) (row0 ss).size ((row0 ss).size * ss.length)) [] ∧
      e = .returned (.tuple #[.slice (some ⟨g, 0, none⟩) ((row0 ss).size * ss.length) ((row0 ss).size * ss.length), .int .i64 ((PS.length : Nat) : Int)]) ∧
      OwnN w' w.heap.size (.slice (some ⟨g, 0, none⟩) ((row0 ss).size * ss.length) ((row0 ss).size * ss.length)) (labL PS ((row0 ss).size * ss.length)) ∧ Below w.heap.size w w') := by
  obtain ⟨i0, hi, hz0, hz1, hz2⟩ := info_parts infoN64
  have V := vp_of hp.ok
  have hn16 := V.n16
  have hw16 := V.w16
  have hw1 := V.w1
  have HPA := Lib.hid hp
  have CH : Hid (∀ W, PicAt W pb po ss → Calls Tryd.prog 64 #[.pointer (some ⟨pb, po, none⟩)] W fun e w' => e = .returned (.int .i64 ss.length) ∧ W = w') := fun W h => l01Height_any _ _ ss W h
  have CW : Hid (∀ W, PicAt W pb po ss → Calls Tryd.prog 63 #[.pointer (some ⟨pb, po, none⟩)] W fun e w' => e = .returned (.int .i64 (row0 ss).size) ∧ W = w') := fun W h => l01Width_any _ _ ss W h
  have CS : Hid (∀ W, PicAt W pb po ss → Calls Tryd.prog 133 #[.pointer (some ⟨pb, po, none⟩)] W (fun e w' => ∃ v, e = .returned v ∧ (∃ ao n cap, v = .slice ao n cap) ∧ OwnS w' W.heap.size v (spL (pixF ss) (row0 ss).size ((row0 ss).size * ss.length)) ∧ Below W.heap.size W w')) := fun W h => l01Spots_any _ _ ss W h
  have CP : Hid (∀ (x y : Int) W, PicAt W pb po ss → Calls Tryd.prog 135 #[.pointer (some ⟨pb, po, none⟩), .agg #[.int .i64 x, .int .i64 y], .bool e8] W (fun e w' => ∃ gp pic, e = .returned (.pointer (some ⟨gp, 0, none⟩)) ∧ PicAt w' gp 0 pic ∧ (row0 pic).size = (row0 ss).size ∧ pic.length = ss.length ∧ pixL pic (row0 ss).size ((row0 ss).size * ss.length) = (List.range ((row0 ss).size * ss.length)).map (partP (pixI ss) (stepL e8) (row0 ss).size (x, y)) ∧ Below W.heap.size W w')) := fun x y W h =>
    (l05Part_any pb po ss x y e8 W h).mono fun e w' ⟨g, bs, h1, h2, h3, h4, h5⟩ => ⟨g, _, h1, h4, mkPic_row0 _ _ _ V.n1, mkPic_len _ _ _, part_list ss V e8 x y bs h3, h5⟩
  have HIn := Lib.hid (fun q h => spL_in (pixF ss) (row0 ss).size ss.length hw1 q h)
  have hLn := spL_len (pixF ss) (row0 ss).size ((row0 ss).size * ss.length)
  have hNle : (row0 ss).size * ss.length ≤ 256 := Nat.mul_le_mul hw16 hn16
  have hc : ((row0 ss).size : Int) * (ss.length : Int) = (((row0 ss).size * ss.length : Nat) : Int) := by push_cast; rfl
  obtain ⟨L, hL⟩ : ∃ L, spL (pixF ss) (row0 ss).size ((row0 ss).size * ss.length) = L := ⟨_, rfl⟩
  rw [hL] at CS HIn hLn ⊢
  obtain ⟨p, hpp⟩ : ∃ p, pixI ss = p := ⟨_, rfl⟩
  rw [hpp] at CP ⊢
  have HPS := Lib.hid (fun s l => partsP_snoc p (stepL e8) (row0 ss).size s l [])
  have HPL := Lib.hid (fun l => partsP_len p (stepL e8) (row0 ss).size l [])
  obtain ⟨S, hS⟩ : ∃ S, stepL e8 = S := ⟨_, rfl⟩
  rw [hS] at CP HPS HPL ⊢
  obtain ⟨N, hN⟩ : ∃ N, (row0 ss).size * ss.length = N := ⟨_, rfl⟩
  have HN := Lib.hid hN
  rw [hN] at CP hLn hNle hc ⊢
  obtain ⟨a, ha⟩ : ∃ a, (row0 ss).size = a := ⟨_, rfl⟩
  rw [ha] at CW CP HIn hw16 hw1 hc HPS HPL HN ⊢
  obtain ⟨b, hbb⟩ : ∃ a, ss.length = a := ⟨_, rfl⟩
  rw [hbb] at CH CP HIn hn16 hc HN
  clear hp V hL hpp hS hN ha hbb
  go_enter Tryd.func62, Tryd.ntmps62
  go_wp2_with fail
  refine (CW.out _ HPA.out).mono ?_
  rintro e w1 ⟨rfl, rfl⟩
  go_wp2_with fail
  refine (CH.out _ HPA.out).mono ?_
  rintro e w1 ⟨rfl, rfl⟩
  go_wp2_with (at_make; refine wpList_make_full _ rfl _ _ 42 rfl w.heap.size 2 i0 (.int .i64 0) 1 Tryd.underlying42 hi hz0 hz1 _ _ _ _ N rfl rfl rfl rfl ?c1 ?c2 (by simp) ?_)
  case c1 => rw [hz2]; omega
  case c2 => unfold maxLen; omega
  intro w1 hown hgr
  rw [toList_madeCells_one] at hown
  have hbel : Below w.heap.size w w1 := (Below.refl _ _).grown hgr (Nat.le_refl _) (fun k h => by cases h)
  have ho1 : OwnN w1 w.heap.size (.slice (some ⟨w.heap.size, 0, none⟩) N N) (labL (partsP p S a (L.take 0) []) N) := by
    have e : numsV (labL (partsP p S a (L.take 0) []) N) = List.replicate N (.int .i64 0) := by
      show numsV (labL [] N) = _
      unfold numsV labL
      apply List.ext_getElem?
      intro i
      by_cases hi : i < N <;> simp [hi, lab]
    unfold OwnN
    rw [labL_len, e]
    exact hown
  have HO1 := Lib.hid ho1
  have HB1 := Lib.hid hbel
  have HPA1 : Hid (∀ W, Below w.heap.size w W → PicAt W pb po ss) := fun W h => HPA.out.below h
  have hgw1 : w.heap.size < w1.heap.size := (hown.lt _ rfl).2
  clear hown hgr hbel ho1 hc
  go_wp2_with fail
  refine (CS.out _ (HPA1.out _ HB1.out)).mono ?_
  rintro e w2 ⟨v, rfl, ⟨ao, ns, cap, rfl⟩, hso, hb2⟩
  have hns : ns = L.length := by
    rcases Joins.ownsRow_forms hso with ⟨h1, h0⟩ | ⟨g0, c, h1⟩
    · cases h1; exact h0.symm
    · cases h1; rfl
  subst hns
  have HSp : Hid (0 < L.length → ∃ sb, ao = some ⟨sb, 0, none⟩ ∧ sb ≠ w.heap.size ∧ Spots w2 sb L) := fun h => by
    rcases Joins.ownsRow_forms hso with ⟨h1, h0⟩ | ⟨sb, c, h1⟩
    · omega
    · cases h1; exact ⟨sb, rfl, by have := (hso.lt sb rfl).1; omega, OwnS.spots hso⟩
  have HO2 : Hid (OwnN w2 w.heap.size (.slice (some ⟨w.heap.size, 0, none⟩) N N) (labL (partsP p S a (L.take 0) []) N)) := HO1.out.below hb2
  have HB2 := Lib.hid (HB1.out.trans (hb2.mono HB1.out.size))
  obtain ⟨m, hm⟩ : ∃ m, L.length = m := ⟨_, rfl⟩
  have HM := Lib.hid hm
  rw [hm] at HSp hLn
  rw [hm]
  clear hso hb2 HO1 hm hgw1
  go_wp2
  go_loopw [8, 10] (fun nv iv wr => ∃ i : Nat, i ≤ m ∧ iv = .int .i64 i ∧ nv = .int .i64 (((partsP p S a (L.take i) []).length : Nat) : Int) ∧ Hid (OwnN wr w.heap.size (.slice (some ⟨w.heap.size, 0, none⟩) N N) (labL (partsP p S a (L.take i) []) N)) ∧ Hid (0 < m → ∃ sb, ao = some ⟨sb, 0, none⟩ ∧ sb ≠ w.heap.size ∧ Spots wr sb L) ∧ Hid (Below w.heap.size w wr)) (fun _ iv _ => m - (intOf iv).toNat)
  case atStart => exact ⟨0, Nat.zero_le _, rfl, rfl, HO2.out, HSp.out, HB2.out⟩
  case round =>
    clear HO2 HSp HB2 HB1
    obtain ⟨i, him, rfl, rfl, HO, HSp, HB⟩ := hrel
    by_cases hlt : i < m
    · have klt : (i : Int) < (m : Int) := by omega
      obtain ⟨sb, rfl, hsg, hsp⟩ := HSp.out (by omega)
      have hiL : i < L.length := by rw [HM.out]; exact hlt
      have c0 := (hsp.2 i hiL).1
      have c1 := (hsp.2 i hiL).2
      obtain ⟨⟨x, y⟩, hLi⟩ : ∃ q, L[i]? = some q := ⟨L[i], List.getElem?_eq_getElem hiL⟩
      have hge : L.getD i (0, 0) = (x, y) := by rw [List.getD_eq_getElem?_getD, hLi]; rfl
      rw [hge] at c0 c1
      simp only at c0 c1
      obtain ⟨⟨x0, x1⟩, y0, y1⟩ := HIn.out _ (List.mem_of_getElem? hLi)
      simp only at x0 x1 y0 y1
      obtain ⟨X, rfl⟩ := Int.eq_ofNat_of_zero_le x0
      obtain ⟨Y, rfl⟩ := Int.eq_ofNat_of_zero_le y0
      have hX : X < a := by omega
      have hY : Y < b := by omega
      have hQi : Y * a + X < N := by rw [← HN.out]; exact at_lt hX hY
      have htk : L.take (i + 1) = L.take i ++ [((X : Int), (Y : Int))] := by rw [List.take_add_one, hLi]; rfl
      have hps := HPS.out ((X : Int), (Y : Int)) (L.take i)
      rw [← htk] at hps
      have hpl := HPL.out (L.take i)
      rw [List.length_take] at hpl
      obtain ⟨PS, hPS⟩ : ∃ q, partsP p S a (L.take i) [] = q := ⟨_, rfl⟩
      rw [hPS] at hps hpl HO
      rw [hPS]
      have hidx : idxS a ((X : Int), (Y : Int)) = Y * a + X := by simp [idxS]
      rw [hidx] at hps
      have hcell : wr.cell? ⟨w.heap.size, Y * a + X, none⟩ = some (.int .i64 ((lab PS (Y * a + X) : Nat) : Int)) := by
        have ho := HO.out
        unfold OwnN at ho
        rw [labL_len] at ho
        have h1 := World.ownsRow.cellAt ho (Y * a + X) (by rw [Nat.mul_one]; exact hQi)
        rw [h1]
        unfold numsV labL
        simp [hQi]
      have kc : (Y : Int) * (a : Int) = ((Y * a : Nat) : Int) := by push_cast; rfl
      have hpl2 : PS.length ≤ 256 := by simp at hpl; omega
      obtain ⟨Z, hZ⟩ : ∃ k, Y * a = k := ⟨_, rfl⟩
      rw [hZ] at hQi hps hcell kc
      obtain ⟨c, hcc⟩ : ∃ c, lab PS (Z + X) = c := ⟨_, rfl⟩
      rw [hcc] at hcell hps
      have k1 : IntKind.i64.wrap ((Y : Int) * (a : Int)) = (Z : Int) := by rw [kc]; exact IntWalk.i64_in _ (by omega)
      have k2 : IntKind.i64.wrap ((Z : Int) + (X : Int)) = (Z : Int) + (X : Int) := IntWalk.i64_in _ (by omega)
      have k3 : (Z : Int) + (X : Int) < (N : Int) := by omega
      have k4 : (0 : Int) ≤ (Z : Int) + (X : Int) := by omega
      have k5 : ((Z : Int) + (X : Int)).toNat = Z + X := by omega
      have HPs := Lib.hid hps
      have HBw : Hid (∀ j, Below w.heap.size w (wr.drewN j)) := fun j => HB.out.trans (Joins.below_draws w.heap.size _ _)
      have HOw : Hid (∀ j, OwnN (wr.drewN j) w.heap.size (.slice (some ⟨w.heap.size, 0, none⟩) N N) (labL PS N)) := fun j => HO.out.below (Joins.below_draws wr.heap.size _ _)
      have HSw : Hid (∀ j, Spots (wr.drewN j) sb L) := fun j => hsp.below (Joins.below_draws wr.heap.size _ _)
      clear hsp hge htk hps hPS hidx kc hZ hcc HO HSp HB hpl
      by_cases hc0 : 0 < c
      · have kc0 : decide ((0 : Int) < (c : Int)) = true := by simp; omega
        have hP := HPs.out
        rw [if_pos hc0] at hP
        have HP2 := Lib.hid hP
        clear hP
        go_wp2
        go_quiet (fail)
        clear k1 k2 k3 k4 k5 hcell c0 c1
        go_wp2
        go_roundw
        case rel => exact ⟨i + 1, by omega, by go_num, by rw [HP2.out], by rw [HP2.out]; exact HOw.out _, fun _ => ⟨sb, rfl, hsg, HSw.out _⟩, HBw.out _⟩
        case measure => simp [intOf]; omega
      · obtain rfl : c = 0 := by omega
        have hP := HPs.out
        rw [if_neg (by omega)] at hP
        have HP2 := Lib.hid hP
        have CPx := Lib.hid (fun W h => CP.out (X : Int) (Y : Int) W h)
        clear hP hc0 HPs
        go_wp2
        go_quiet (fail)
        have HB3 := Lib.hid (HBw.out nq)
        have HO3 := Lib.hid (HOw.out nq)
        have HS3 := Lib.hid (HSw.out nq)
        obtain ⟨W3, hW3⟩ : ∃ W3, wr.drewN nq = W3 := ⟨_, rfl⟩
        rw [hW3] at HB3 HO3 HS3 ⊢
        have d0 := (HS3.out.2 i hiL).1
        have d1 := (HS3.out.2 i hiL).2
        have hge : L.getD i (0, 0) = ((X : Int), (Y : Int)) := by rw [List.getD_eq_getElem?_getD, hLi]; rfl
        rw [hge] at d0 d1
        simp only at d0 d1
        have hpl3 : (PS.length : Int) ≤ 256 := by omega
        clear HBw HOw HSw hW3 c0 c1 hcell k1 k2 k3 k4 k5 hge
        go_wp2_with fail
        refine (CPx.out W3 (HPA1.out _ HB3.out)).mono ?_
        rintro e w4 ⟨gp, pic, rfl, hpa, hr0, hln, hpx, hb4⟩
        have HPa4 := Lib.hid hpa
        have HB4 := Lib.hid (HB3.out.trans (hb4.mono HB3.out.size))
        have HO4 := Lib.hid (HO3.out.below hb4)
        have HS4 := Lib.hid (HS3.out.below hb4)
        have HR0 := Lib.hid hr0
        have HLnp := Lib.hid hln
        have HPx := Lib.hid hpx
        clear hpa hb4 hr0 hln hpx HB3 HO3 HS3 d0 d1
        go_wp2_with fail
        refine (l01List_any gp 0 pic w4 HPa4.out).mono ?_
        rintro e w5 ⟨gl, cap5, rfl, hlist, hb5⟩
        rw [HR0.out, HLnp.out, HN.out, HPx.out] at hlist
        rw [HR0.out, HLnp.out, HN.out]
        have hgl := (hlist.lt gl rfl).1
        have hgl2 := (hlist.lt gl rfl).2
        have HBl : Hid (BoolsAt w5 gl N (partP p S a ((X : Int), (Y : Int)))) := ⟨hgl2, fun t ht => by
          have := World.ownsRow.cellAt hlist t (by omega)
          rw [this]
          unfold boolV
          simp [ht]⟩
        have hw4 : w.heap.size < w4.heap.size := (HO4.out.lt w.heap.size rfl).2
        have hgne : gl ≠ w.heap.size := by omega
        have HB5 := Lib.hid (HB4.out.trans (hb5.mono HB4.out.size))
        have HO5 := Lib.hid (HO4.out.below hb5)
        have HS5 := Lib.hid (HS4.out.below hb5)
        obtain ⟨q, hq⟩ : ∃ q, partP p S a ((X : Int), (Y : Int)) = q := ⟨_, rfl⟩
        rw [hq] at HBl HP2
        have HO6 : Hid (w5.ownsRow w.heap.size 2 1 (.slice (some ⟨w.heap.size, 0, none⟩) N N) N (numsV (labM PS q 0 N))) := by
          show World.ownsRow _ _ _ _ _ _ _
          rw [labM_zero]
          have := HO5.out
          unfold OwnN at this
          rwa [labL_len] at this
        have HNo := Lib.hid (fun t => labM_no PS q t N)
        have HSe := Lib.hid (fun t => labM_set PS q t N)
        clear hlist hb5 hgl hgl2 hw4 hq HB4 HO4 HS4 HO5 HR0 HLnp HPx HPa4 CPx
        go_wp2
        go_loopw [57] (fun tv wr => ∃ t : Nat, t ≤ N ∧ tv = .int .i64 t ∧ Hid (wr.ownsRow w.heap.size 2 1 (.slice (some ⟨w.heap.size, 0, none⟩) N N) N (numsV (labM PS q t N))) ∧ Hid (BoolsAt wr gl N q) ∧ Hid (Spots wr sb L) ∧ Hid (Below w.heap.size w wr)) (fun tv _ => N - (intOf tv).toNat)
        case atStart => exact ⟨0, Nat.zero_le _, rfl, HO6.out, HBl.out, HS5.out, HB5.out⟩
        case round =>
          clear HO6 HBl HS5 HB5
          obtain ⟨t, ht, rfl, HO, HBl, HS, HB⟩ := hrel
          by_cases hlt3 : t < N
          · have kt : (t : Int) < (N : Int) := by omega
            have hcl := HBl.out.2 t hlt3
            have hold := HO.out.cellAt t (by omega)
            have hfz := HO.out.frozenAt t
            have hlen : (numsV (labM PS q t N)).length = N := by unfold numsV; rw [List.length_map, labM_len]
            rw [List.getElem?_eq_getElem (by omega)] at hold
            obtain ⟨u, hu⟩ : ∃ u, (numsV (labM PS q t N))[t]'(by omega) = u := ⟨_, rfl⟩
            rw [hu] at hold
            cases hqt : q t with
            | false =>
              rw [hqt] at hcl
              have hno := HNo.out t hqt
              have HO2 : Hid (wr.ownsRow w.heap.size 2 1 (.slice (some ⟨w.heap.size, 0, none⟩) N N) N (numsV (labM PS q (t + 1) N))) := by show World.ownsRow _ _ _ _ _ _ _; rw [hno]; exact HO.out
              clear hno HO hold hfz hlen hu hqt
              go_wp2
              go_roundw
              case rel => exact ⟨t + 1, by omega, by go_num, HO2, HBl, HS, HB⟩
              case measure => simp [intOf]; omega
            | true =>
              rw [hqt] at hcl
              have hst := (HO.out.stored t (.int .i64 ((PS.length + 1 : Nat) : Int))).1
              rw [HSe.out t hqt] at hst
              have hcast : ((PS.length + 1 : Nat) : Int) = (PS.length : Int) + 1 := by push_cast; rfl
              rw [hcast] at hst
              have HO2 := Lib.hid hst
              have HBl2 := Lib.hid (HBl.out.other hgne t (.int .i64 ((PS.length : Int) + 1)))
              have HS2 := Lib.hid (HS.out.other hsg t (.int .i64 ((PS.length : Int) + 1)))
              have HB2 := Lib.hid (HB.out.setCell (p := ⟨w.heap.size, t, none⟩) (Nat.le_refl _) (.int .i64 ((PS.length : Int) + 1)))
              clear hst HO HBl HS HB hlen hu hqt hcast
              go_wp2
              go_roundw
              case rel => exact ⟨t + 1, by omega, by go_num, HO2.out, HBl2.out, HS2.out, HB2.out⟩
              case measure => simp [intOf]; omega
          · obtain rfl : t = N := by omega
            have hkt : ¬ (t : Int) < (t : Int) := by omega
            have HO2 : Hid (OwnN wr w.heap.size (.slice (some ⟨w.heap.size, 0, none⟩) t t) (labL (partsP p S a (L.take (i + 1)) []) t)) := by
              show OwnN _ _ _ _
              unfold OwnN
              rw [HP2.out, labL_len, ← labM_full]
              exact HO.out
            have hlen2 : ((PS.length : Int) + 1) = (((partsP p S a (L.take (i + 1)) []).length : Nat) : Int) := by rw [HP2.out, List.length_append]; push_cast; rfl
            have HL2 := Lib.hid hlen2
            clear HO hlen2
            go_wp2
            go_roundw
            case rel => exact ⟨i + 1, by omega, by go_num, by rw [HL2.out], HO2.out, fun _ => ⟨sb, rfl, hsg, HS.out⟩, HB.out⟩
            case measure => simp [intOf]; omega
    · obtain rfl : i = m := by omega
      have hki : ¬ (i : Int) < (i : Int) := by omega
      have HO2 : Hid (OwnN wr w.heap.size (.slice (some ⟨w.heap.size, 0, none⟩) N N) (labL (partsP p S a L []) N)) := by
        show OwnN _ _ _ _
        have := HO.out
        rwa [List.take_of_length_le (by rw [HM.out]; exact Nat.le_refl _)] at this
      have hPL : partsP p S a (L.take i) [] = partsP p S a L [] := by rw [List.take_of_length_le (by rw [HM.out]; exact Nat.le_refl _)]
      rw [hPL]
      clear HO HSp hPL
      go_wp2
      go_ret2
      first | exact ⟨w.heap.size, rfl, HO2.out, HB.out⟩ | exact ⟨w.heap.size, _, rfl, rfl, HO2.out, HB.out⟩ | exact ⟨HO2.out, HB.out⟩
end Go.Proofs.YtakaglbbcaplhaaDoor
