/- Contracts of single functions, and plain lemmas, on which the exact laws of this seat rest; each holds under the conditions that it states. -/
import Derived.Test.YtakaglbbcaplhaaDoorDA
namespace Go.Proofs.YtakaglbbcaplhaaDoor
set_option linter.unusedVariables false
set_option linter.unusedSimpArgs false
open Go.RowKit
attribute [local go_sem] Oper.semAt_some

/-! ### the least by a comparison -/
def cmpI (a b : Int) : Int := if a < b then -1 else if b < a then 1 else 0
theorem isNaN64 (a : Int) (w : World) : Calls Tryd.prog 156 #[.int .i64 a] w fun e w' => e = .returned (.bool false) ∧ w = w' := by
  go_enter Tryd.func156, Tryd.ntmps156
  go_wp2
  go_ret
  exact ⟨ret_bool (by simp), rfl⟩
theorem cmp64_any (a b : Int) (w : World) : Calls Tryd.prog 110 #[.int .i64 a, .int .i64 b] w fun e w' => e = .returned (.int .i64 (cmpI a b)) ∧ w = w' := by
  have CN := Lib.hid (fun x W => isNaN64 x W)
  have HV : Hid (cmpI a b = if a < b then -1 else if b < a then 1 else 0) := rfl
  by_cases h1 : a < b
  · have HR : Hid (cmpI a b = -1) := by show _ = _; rw [HV.out, if_pos h1]
    clear HV
    go_enter Tryd.func110, Tryd.ntmps110
    go_wp2_with fail
    refine (CN.out _ _).mono ?_
    rintro e w' ⟨rfl, rfl⟩
    go_wp2_with fail
    refine (CN.out _ _).mono ?_
    rintro e w' ⟨rfl, rfl⟩
    go_wp2
    go_ret
    exact ⟨ret_int HR.out.symm, rfl⟩
  · by_cases h2 : b < a
    · have HR : Hid (cmpI a b = 1) := by show _ = _; rw [HV.out, if_neg h1, if_pos h2]
      clear HV
      go_enter Tryd.func110, Tryd.ntmps110
      go_wp2_with fail
      refine (CN.out _ _).mono ?_
      rintro e w' ⟨rfl, rfl⟩
      go_wp2_with fail
      refine (CN.out _ _).mono ?_
      rintro e w' ⟨rfl, rfl⟩
      go_wp2
      go_ret
      exact ⟨ret_int HR.out.symm, rfl⟩
    · have HR : Hid (cmpI a b = 0) := by show _ = _; rw [HV.out, if_neg h1, if_neg h2]
      clear HV
      go_enter Tryd.func110, Tryd.ntmps110
      go_wp2_with fail
      refine (CN.out _ _).mono ?_
      rintro e w' ⟨rfl, rfl⟩
      go_wp2_with fail
      refine (CN.out _ _).mono ?_
      rintro e w' ⟨rfl, rfl⟩
      go_wp2
      go_ret
      exact ⟨ret_int HR.out.symm, rfl⟩
def mnS (d : Int × Int → Int) (m q : Int × Int) : Int × Int := if d q < d m then q else m
def mnL (d : Int × Int → Int) : List (Int × Int) → Int × Int
  | [] => (0, 0)
  | q :: L => L.foldl (mnS d) q
theorem mnL_snoc (d : Int × Int → Int) (L : List (Int × Int)) (q : Int × Int) (h : L ≠ []) : mnL d (L ++ [q]) = mnS d (mnL d L) q := by
  cases L with
  | nil => exact absurd rfl h
  | cons a L => simp [mnL]
theorem mnL_take (d : Int × Int → Int) (L : List (Int × Int)) (i : Nat) (h0 : 1 ≤ i) (hi : i < L.length) : mnL d (L.take (i + 1)) = mnS d (mnL d (L.take i)) (L.getD i (0, 0)) := by
  have e : L.take (i + 1) = L.take i ++ [L.getD i (0, 0)] := by
    rw [List.take_add_one, List.getD_eq_getElem?_getD, List.getElem?_eq_getElem hi]
    rfl
  rw [e, mnL_snoc]
  intro hn
  have := congrArg List.length hn
  rw [List.length_take, List.length_nil] at this
  omega
theorem mnL_one (d : Int × Int → Int) (L : List (Int × Int)) (h : 0 < L.length) : mnL d (L.take 1) = L.getD 0 (0, 0) := by
  cases L with
  | nil => simp at h
  | cons a L => rfl
theorem nrL_mnL (k x y : Int) (hd : ∀ q : Int × Int, 0 ≤ farI k x y q.1 q.2) : ∀ L : List (Int × Int), L ≠ [] → nrL k x y L = (mnL (fun q => farI k x y q.1 q.2) L, farI k x y (mnL (fun q => farI k x y q.1 q.2) L).1 (mnL (fun q => farI k x y q.1 q.2) L).2) := by
  intro L h
  cases L with
  | nil => exact absurd rfl h
  | cons a L =>
    have : ∀ (L : List (Int × Int)) (m : Int × Int), L.foldl (nrS k x y) (m, farI k x y m.1 m.2) = (L.foldl (mnS (fun q => farI k x y q.1 q.2)) m, farI k x y (L.foldl (mnS (fun q => farI k x y q.1 q.2)) m).1 (L.foldl (mnS (fun q => farI k x y q.1 q.2)) m).2) := by
      intro L
      induction L with
      | nil => intro m; rfl
      | cons q L ih =>
        intro m
        rw [List.foldl_cons, List.foldl_cons]
        have h0 := hd m
        have e : nrS k x y (m, farI k x y m.1 m.2) q = (mnS (fun q => farI k x y q.1 q.2) m q, farI k x y (mnS (fun q => farI k x y q.1 q.2) m q).1 (mnS (fun q => farI k x y q.1 q.2) m q).2) := by
          unfold nrS mnS
          by_cases hc : farI k x y q.1 q.2 < farI k x y m.1 m.2
          · rw [if_pos (Or.inr hc), if_pos hc]
          · rw [if_neg (by intro h; rcases h with h | h; exact absurd h (by omega); exact hc h), if_neg hc]
        rw [e, ih]
    have e0 : nrL k x y (a :: L) = L.foldl (nrS k x y) (a, farI k x y a.1 a.2) := by
      unfold nrL
      rw [List.foldl_cons]
      rfl
    rw [e0, this]
    rfl
theorem mnL_small (d : Int × Int → Int) (L : List (Int × Int)) (hL : SmallL L) : Small (mnL d L).1 ∧ Small (mnL d L).2 := by
  cases L with
  | nil => show Small 0 ∧ Small 0; unfold Small; decide
  | cons a L =>
    have : ∀ (L : List (Int × Int)) (m : Int × Int), SmallL L → (Small m.1 ∧ Small m.2) → (Small (L.foldl (mnS d) m).1 ∧ Small (L.foldl (mnS d) m).2) := by
      intro L
      induction L with
      | nil => intro m _ h; exact h
      | cons q L ih =>
        intro m hL h
        rw [List.foldl_cons]
        refine ih _ (fun p hp => hL p (by simp [hp])) ?_
        unfold mnS
        split
        · exact hL q (by simp)
        · exact h
    exact this L a (fun p hp => hL p (by simp [hp])) (hL a (by simp))
theorem farI_nonneg (k ax ay bx b_y : Int) : 0 ≤ farI k ax ay bx b_y := by
  have h1 : 0 ≤ absI (ax - bx) := by unfold absI; omega
  have h2 : 0 ≤ absI (ay - b_y) := by unfold absI; omega
  have h3 := Int.mul_nonneg h1 h1
  have h4 := Int.mul_nonneg h2 h2
  unfold farI
  split
  · omega
  · split <;> omega

set_option maxHeartbeats 4000000 in
set_option maxRecDepth 100000 in
/-- the comparison of two spots by how far they are -/
theorem near1_any (A B : Nat) (k x y ax ay bx b_y : Int) (w : World) (hk : w.cell? ⟨A, 0, none⟩ = some (.int .i64 k)) (hs : Var2 w B (x, y)) (hx : Small x ∧ Small y) (ha : Small ax ∧ Small ay) (hb : Small bx ∧ Small b_y) :
    Calls Tryd.prog 109 #[.agg #[.int .i64 ax, .int .i64 ay], .agg #[.int .i64 bx, .int .i64 b_y], .pointer (some ⟨A, 0, none⟩), .pointer (some ⟨B, 0, none⟩)] w fun e w' => e = .returned (.int .i64 (cmpI (farI k x y ax ay) (farI k x y bx b_y))) ∧ Below w.heap.size w w' := by
  have CA := Lib.hid (fun W => between_any k x y ax ay W hx.1 hx.2 ha.1 ha.2)
  have CB := Lib.hid (fun W => between_any k x y bx b_y W hx.1 hx.2 hb.1 hb.2)
  obtain ⟨da, hda⟩ : ∃ d, farI k x y ax ay = d := ⟨_, rfl⟩
  obtain ⟨db, hdb⟩ : ∃ d, farI k x y bx b_y = d := ⟨_, rfl⟩
  rw [hda] at CA ⊢
  rw [hdb] at CB ⊢
  have CC := Lib.hid (fun W => cmp64_any da db W)
  obtain ⟨c, hc⟩ : ∃ d, cmpI da db = d := ⟨_, rfl⟩
  rw [hc] at CC ⊢
  obtain ⟨W0, hW0⟩ : ∃ W0, ((w.alloc (.cells #[.int .i64 ax, .int .i64 ay] 31)).alloc (.cells #[.int .i64 bx, .int .i64 b_y] 31)) = W0 := ⟨_, rfl⟩
  have b0 : Below w.heap.size w W0 := by rw [← hW0]; exact Joins.below_alloc2 _ _ _
  have ha0 : Var2 W0 w.heap.size (ax, ay) := by
    show _ = _
    rw [← hW0, Below.heap_alloc _ _ _ (by simp)]; exact heap_alloc_last w _
  have hb0 : Var2 W0 (w.heap.size + 1) (bx, b_y) := by
    show _ = _
    rw [← hW0]
    exact heap_alloc2_new _ _ _
  have hs0 := hs.below b0
  have hk0 := cell_kept b0 hk
  have HX : Hid (∀ W, Below W0.heap.size W0 W → W.cell? ⟨A, 0, none⟩ = some (.int .i64 k) ∧ W.cell? ⟨B, 0, none⟩ = some (.int .i64 x) ∧ W.cell? ⟨B, 1, none⟩ = some (.int .i64 y) ∧ W.cell? ⟨w.heap.size, 0, none⟩ = some (.int .i64 ax) ∧ W.cell? ⟨w.heap.size, 1, none⟩ = some (.int .i64 ay) ∧ W.cell? ⟨w.heap.size + 1, 0, none⟩ = some (.int .i64 bx) ∧ W.cell? ⟨w.heap.size + 1, 1, none⟩ = some (.int .i64 b_y)) := fun W hb =>
    ⟨cell_kept hb hk0, (hs0.below hb).c0, (hs0.below hb).c1, (ha0.below hb).c0, (ha0.below hb).c1, (hb0.below hb).c0, (hb0.below hb).c1⟩
  have B0 := Lib.hid b0
  have HW := Lib.hid hW0
  have lA := World.block_lt_of_cell? w _ hk
  have lB := hs.lt
  have l0 : w.heap.size + 1 < W0.heap.size := hb0.lt
  clear hda hdb hc b0 hW0 ha0 hb0 hs0 hk0 hk hs hx ha hb
  go_enter Tryd.func109, Tryd.ntmps109
  go_wp2_with fail
  rw [HW.out]
  go_region_held3 (fun w' => w'.cell? ⟨A, 0, none⟩ = some (.int .i64 k) ∧ w'.cell? ⟨B, 0, none⟩ = some (.int .i64 x) ∧ w'.cell? ⟨B, 1, none⟩ = some (.int .i64 y) ∧ w'.cell? ⟨w.heap.size, 0, none⟩ = some (.int .i64 ax) ∧ w'.cell? ⟨w.heap.size, 1, none⟩ = some (.int .i64 ay) ∧ w'.cell? ⟨w.heap.size + 1, 0, none⟩ = some (.int .i64 bx) ∧ w'.cell? ⟨w.heap.size + 1, 1, none⟩ = some (.int .i64 b_y))
    (first | exact HX.out _ (Below.refl _ _) | exact HX.out _ (Below.refl _ _).drew | exact HX.out _ ((Below.refl _ _).drew.trans hb3) | exact HX.out _ (((Below.refl _ _).drew.trans hb3).trans (hb4.mono hb3.size)))
    (first | (go_at_call 99; with_reducible refine Calls.mono (CA.out _) ?_; rintro e w3 ⟨rfl, hb3⟩) | (go_at_call 99; with_reducible refine Calls.mono (CB.out _) ?_; rintro e w4 ⟨rfl, hb4⟩) | (go_at_call 110; refine (CC.out _).mono ?_; rintro e w5 ⟨rfl, rfl⟩))
  have hb04 := ((Below.refl W0.heap.size W0).drew.trans hb3).trans (hb4.mono hb3.size)
  have B4 := Lib.hid (B0.out.trans (hb04.mono B0.out.size))
  clear hb3 hb4 hb04 HX CA CB CC
  go_wp2
  go_ret
  exact ⟨rfl, B4.out⟩

set_option maxHeartbeats 4000000 in
set_option maxRecDepth 100000 in
/-- the first nearest one of some spots -/
theorem minFunc_any (A B : Nat) (k x y : Int) (v : Value) (xs : List (Int × Int)) (w : World) (hN : xs.length ≤ 1048576) (hpos : 0 < xs.length) (hv : SlS w v xs) (hL : SmallL xs) (hk : w.cell? ⟨A, 0, none⟩ = some (.int .i64 k)) (hs : Var2 w B (x, y)) (hx : Small x ∧ Small y) :
    Calls Tryd.prog 107 #[v, .func (.func 109) #[] #[.pointer (some ⟨A, 0, none⟩), .pointer (some ⟨B, 0, none⟩)]] w fun e w' => e = .returned (.agg #[.int .i64 (mnL (fun q => farI k x y q.1 q.2) xs).1, .int .i64 (mnL (fun q => farI k x y q.1 q.2) xs).2]) ∧ Below w.heap.size w w' := by
  obtain ⟨b, cap, rfl, hbl, hcs⟩ : ∃ b cap, v = .slice (some ⟨b, 0, none⟩) xs.length cap ∧ Spots w b xs := by
    rcases hv with ⟨ao, cap, rfl, rfl⟩ | ⟨b, cap, rfl, _, h⟩
    · exact absurd hpos (by simp)
    · exact ⟨b, cap, rfl, h⟩
  have HC : Hid (∀ a c : Int × Int, Small a.1 ∧ Small a.2 → Small c.1 ∧ Small c.2 → ∀ W, Below w.heap.size w W → Calls Tryd.prog 109 #[.agg #[.int .i64 a.1, .int .i64 a.2], .agg #[.int .i64 c.1, .int .i64 c.2], .pointer (some ⟨A, 0, none⟩), .pointer (some ⟨B, 0, none⟩)] W fun e w' => e = .returned (.int .i64 (cmpI (farI k x y a.1 a.2) (farI k x y c.1 c.2))) ∧ Below W.heap.size W w') := fun a c ha hc W hb => near1_any A B k x y a.1 a.2 c.1 c.2 W (cell_kept hb hk) (hs.below hb) hx ha hc
  obtain ⟨d, hd⟩ : ∃ d : Int × Int → Int, (fun q : Int × Int => farI k x y q.1 q.2) = d := ⟨_, rfl⟩
  have hdd : ∀ q : Int × Int, farI k x y q.1 q.2 = d q := fun q => by rw [← hd]
  rw [hd]
  have HM : Hid (∀ i, 1 ≤ i → i < xs.length → mnL d (xs.take (i + 1)) = mnS d (mnL d (xs.take i)) (xs.getD i (0, 0))) := fun i h0 hi => mnL_take d xs i h0 hi
  have HM1 : Hid (mnL d (xs.take 1) = xs.getD 0 (0, 0)) := mnL_one d xs hpos
  have HMn : Hid (mnL d (xs.take xs.length) = mnL d xs) := by show _ = _; rw [List.take_length]
  have HSm : Hid (∀ i, i < xs.length → Small (xs.getD i (0, 0)).1 ∧ Small (xs.getD i (0, 0)).2) := fun i hi => hL _ (by rw [List.getD_eq_getElem?_getD, List.getElem?_eq_getElem hi]; exact List.getElem_mem hi)
  have HSk : Hid (∀ i, Small (mnL d (xs.take i)).1 ∧ Small (mnL d (xs.take i)).2) := fun i => mnL_small d _ (fun p hp => hL p (List.mem_of_mem_take hp))
  have HCs : Hid (∀ W, Below w.heap.size w W → ∀ i, i < xs.length → W.cell? ⟨b, i * 2, none⟩ = some (.int .i64 (xs.getD i (0, 0)).1) ∧ W.cell? ⟨b, i * 2 + 1, none⟩ = some (.int .i64 (xs.getD i (0, 0)).2)) := fun W hb i hi => ⟨cell_kept hb (hcs i hi).1, cell_kept hb (hcs i hi).2⟩
  have q0 := (hcs 0 hpos).1
  have q1 := (hcs 0 hpos).2
  rw [Nat.zero_mul] at q0 q1
  simp only [hdd] at HC
  obtain ⟨g, hg⟩ : ∃ g : Nat → Int × Int, ∀ i, xs.getD i (0, 0) = g i := ⟨fun i => xs.getD i (0, 0), fun _ => rfl⟩
  obtain ⟨mm, hmm⟩ : ∃ mm : Nat → Int × Int, ∀ i, mnL d (xs.take i) = mm i := ⟨fun i => mnL d (xs.take i), fun _ => rfl⟩
  obtain ⟨n, hn⟩ : ∃ n, xs.length = n := ⟨_, rfl⟩
  obtain ⟨R, hR⟩ : ∃ R, mnL d xs = R := ⟨_, rfl⟩
  simp only [hg, hmm] at HM HM1 HMn HSm HSk HCs q0 q1
  rw [hn] at HM HMn HSm HCs hN hpos ⊢
  rw [hR] at HMn ⊢
  clear hv hcs hk hs hx hL hd hdd hg hmm hn hR
  go_enter Tryd.func107, Tryd.ntmps107
  go_wp2
  go_loopw [6] (fun iv wr => ∃ i : Nat, 1 ≤ i ∧ i ≤ n ∧ iv = .int .i64 i ∧ Var2 wr w.heap.size (0, 0) ∧ Var2 wr (w.heap.size + 1) (mm i) ∧ Below w.heap.size w wr) (fun iv _ => n - (intOf iv).toNat)
  case atStart =>
    refine ⟨1, Nat.le_refl _, by omega, rfl, ?_, ?_, ?_⟩
    · exact (Below.heap_alloc _ _ _ (by simp)).trans (heap_alloc_last w _)
    · rw [HM1.out]
      exact heap_alloc2_new _ _ _
    · exact Joins.below_alloc2 _ _ _
  case round =>
    obtain ⟨i, h1, hi, rfl, hv0, hv1, hbel⟩ := hrel
    have hs := hbel.size
    by_cases hlt : i < n
    · have klt : (i : Int) < (n : Int) := by omega
      have c := HCs.out wr hbel i hlt
      have C := Lib.hid (HC.out (g i) (mm i) (HSm.out i hlt) (HSk.out i))
      have HMi := Lib.hid (HM.out i h1 hlt)
      obtain ⟨⟨p, q⟩, hgi⟩ : ∃ p, g i = p := ⟨_, rfl⟩
      obtain ⟨⟨p2, q2⟩, hmi⟩ : ∃ p, mm i = p := ⟨_, rfl⟩
      rw [hgi] at c C HMi
      rw [hmi] at C HMi hv1
      have c0 := c.1
      have c1 := c.2
      have lb : b < wr.heap.size := by omega
      have HV0 := Lib.hid hv0
      have HV1 := Lib.hid hv1
      have HB := Lib.hid hbel
      have HX : Hid (∀ W, Below wr.heap.size wr W → W.cell? ⟨b, i * 2, none⟩ = some (.int .i64 p) ∧ W.cell? ⟨b, i * 2 + 1, none⟩ = some (.int .i64 q) ∧ W.cell? ⟨w.heap.size + 1, 0, none⟩ = some (.int .i64 p2) ∧ W.cell? ⟨w.heap.size + 1, 1, none⟩ = some (.int .i64 q2)) := fun W hb => ⟨cell_kept hb c.1, cell_kept hb c.2, (HV1.out.below hb).c0, (HV1.out.below hb).c1⟩
      clear c hv0 hv1 hbel hgi hmi q0 q1 c0 c1
      go_wp2_with fail
      go_region_held3 (fun w' => w'.cell? ⟨b, i * 2, none⟩ = some (.int .i64 p) ∧ w'.cell? ⟨b, i * 2 + 1, none⟩ = some (.int .i64 q) ∧ w'.cell? ⟨w.heap.size + 1, 0, none⟩ = some (.int .i64 p2) ∧ w'.cell? ⟨w.heap.size + 1, 1, none⟩ = some (.int .i64 q2))
        (first | exact HX.out _ (Below.refl _ _) | exact HX.out _ (Below.refl _ _).drew | exact HX.out _ ((Below.refl _ _).drew.trans hb3))
        (first | (go_at_call 109; refine (C.out _ (HB.out.trans ((Below.refl _ _).drew.mono HB.out.size))).mono ?_; rintro e w3 ⟨rfl, hb3⟩))
      have hb13 := (Below.refl wr.heap.size wr).drew.trans hb3
      have X3 := HX.out w3 hb13
      have c0 := X3.1
      have c1 := X3.2.1
      have HV0a := Lib.hid (HV0.out.below hb13)
      have HV1a := Lib.hid (HV1.out.below hb13)
      have HBa := Lib.hid (HB.out.trans (hb13.mono HB.out.size))
      have v0 := HV1a.out.c0
      have v1 := HV1a.out.c1
      have f0 := two_free HV1a.out 0
      have f1 := two_free HV1a.out 1
      have l3 : w.heap.size ≤ w3.heap.size := HBa.out.size
      have lb3 : b < w3.heap.size := Nat.lt_of_lt_of_le lb hb13.size
      clear hb3 hb13 X3 HX HV0 HV1 HB C
      by_cases hc : d (p, q) < d (p2, q2)
      · have hcm : decide (cmpI (d (p, q)) (d (p2, q2)) < 0) = true := by
          refine decide_eq_true ?_
          unfold cmpI
          rw [if_pos hc]
          decide
        have HR : Hid (mm (i + 1) = (p, q)) := by
          show _ = _
          rw [HMi.out]
          unfold mnS
          rw [if_pos hc]
        rw [hcm]
        clear hcm hc HMi
        go_wp2
        go_roundw
        case rel => exact ⟨i + 1, by omega, by omega, by go_num, (HV0a.out.far (by omega) _).far (by omega) _, by rw [HR.out]; exact HV1a.out.upd _ _, (HBa.out.setCell (p := ⟨w.heap.size + 1, 0, none⟩) (by simp) _).setCell (p := ⟨w.heap.size + 1, 1, none⟩) (by simp) _⟩
        case measure => simp [intOf]; omega
      · have hcm : decide (cmpI (d (p, q)) (d (p2, q2)) < 0) = false := by
          refine decide_eq_false ?_
          unfold cmpI
          rw [if_neg hc]
          split <;> omega
        have HR : Hid (mm (i + 1) = (p2, q2)) := by
          show _ = _
          rw [HMi.out]
          unfold mnS
          rw [if_neg hc]
        rw [hcm]
        clear hcm hc HMi
        go_wp2
        go_roundw
        case rel => exact ⟨i + 1, by omega, by omega, by go_num, HV0a.out, by rw [HR.out]; exact HV1a.out, HBa.out⟩
        case measure => simp [intOf]; omega
    · obtain rfl : i = n := by omega
      rw [HMn.out] at hv1
      obtain ⟨r1, r2⟩ := R
      have HV0 := Lib.hid hv0
      have HV1 := Lib.hid hv1
      have HB := Lib.hid hbel
      have v0 := HV1.out.c0
      have v1 := HV1.out.c1
      have u0 := HV0.out.c0
      have u1 := HV0.out.c1
      have f0 := two_free HV0.out 0
      have f1 := two_free HV0.out 1
      clear hv0 hv1 hbel q0 q1
      go_wp2
      exact bodyPost_ret (results_cell1 (p := 4) (ty := 31) Tryd.results107 _ _ w.heap.size 31 _ (0, 0) _ rfl (HV0.out.upd _ _) Tryd.underlying31 rfl infoSp1) rfl ⟨rfl, (HB.out.setCell (p := ⟨w.heap.size, 0, none⟩) (by simp) _).setCell (p := ⟨w.heap.size, 1, none⟩) (by simp) _⟩
end Go.Proofs.YtakaglbbcaplhaaDoor
