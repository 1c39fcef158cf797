/- Contracts of single functions, and plain lemmas, on which the exact laws of this seat rest; each holds under the conditions that it states. -/
import Derived.Test.YtenbhnfajjknkaaDoorL12
import Derived.Test.YtenbhnfajjknkaaDoorB1
namespace Go.Proofs.YtenbhnfajjknkaaDoor
set_option linter.unusedVariables false
set_option linter.unusedSimpArgs false
open Go.RowKit

/-- no offset of the first k leads to a black pixel -/
def msK (ss : List ByteArray) (ys : List (Int × Int)) (X Y : Int) (k : Nat) : Bool := (List.range k).all fun i => !pixI ss (X + (ys.getD i (0, 0)).1) (Y + (ys.getD i (0, 0)).2)
theorem msK_snoc (ss : List ByteArray) (ys : List (Int × Int)) (X Y : Int) (k : Nat) : msK ss ys X Y (k + 1) = (msK ss ys X Y k && !pixI ss (X + (ys.getD k (0, 0)).1) (Y + (ys.getD k (0, 0)).2)) := by
  simp [msK, List.range_succ]
theorem msK_less (ss : List ByteArray) (ys : List (Int × Int)) (X Y : Int) {k n : Nat} (hk : k ≤ n) (h : msK ss ys X Y k = false) : msK ss ys X Y n = false := by
  unfold msK at h ⊢
  rw [List.all_eq_false] at h ⊢
  obtain ⟨i, hi, hn⟩ := h
  exact ⟨i, List.mem_range.2 (by have := List.mem_range.1 hi; omega), hn⟩
/-- a pixel of a hit -/
def hmF (ss : List ByteArray) (xs ys : List (Int × Int)) (y x : Nat) : Bool := fitB ss xs x y && msK ss ys x y ys.length
def hmOk (ss : List ByteArray) (xs ys : List (Int × Int)) : Bool := validB ss && elB xs && elB ys
def hmP (ss : List ByteArray) (xs ys : List (Int × Int)) : List ByteArray := if hmOk ss xs ys then mkPic (row0 ss).size ss.length (hmF ss xs ys) else []

set_option maxHeartbeats 4000000 in
set_option maxRecDepth 100000 in
theorem spec_Hit (u v v2 : Value) (ss : List ByteArray) (xs ys : List (Int × Int)) (w : World) (hL : ss.length ≤ maxLen) (hz : ∀ s ∈ ss, s.size ≤ maxLen) (hu : Sl w u ss) (hN : xs.length ≤ 1048576) (hv : SlS w v xs) (hN2 : ys.length ≤ 1048576) (hv2 : SlS w v2 ys) :
    Calls Tryd.prog 28 #[.agg #[u], .agg #[v], .agg #[v2]] w (SaysPic (hmP ss xs ys) (hmOk ss xs ys) w) := by
  obtain ⟨W0, hW0⟩ : ∃ W0, (((w.alloc (.cells #[u] 30)).alloc (.cells #[v] 36)).alloc (.cells #[v2] 36)).alloc (.cells #[.slice none 0 0] 30) = W0 := ⟨_, rfl⟩
  have hs0 : W0.heap.size = w.heap.size + 1 + 1 + 1 + 1 := by rw [← hW0]; simp
  have hb0 : Below w.heap.size w W0 := by rw [← hW0]; exact (Joins.below_alloc3 _ _ _ _).alloc (by first | (simp; done) | (simp; omega)) _
  have p0 : W0.heap[w.heap.size]? = some (.cells #[u] 30 (0, 0)) := by
    rw [← hW0, Below.heap_alloc _ _ _ (by first | (simp; done) | (simp; omega)), Below.heap_alloc _ _ _ (by first | (simp; done) | (simp; omega)), Below.heap_alloc _ _ _ (by first | (simp; done) | (simp; omega))]; exact heap_alloc_last w _
  have p1 : W0.heap[w.heap.size + 1]? = some (.cells #[v] 36 (0, 0)) := by
    rw [← hW0, Below.heap_alloc _ _ _ (by first | (simp; done) | (simp; omega)), Below.heap_alloc _ _ _ (by first | (simp; done) | (simp; omega))]
    exact heap_alloc2_new _ _ _
  have p2 : W0.heap[w.heap.size + 1 + 1]? = some (.cells #[v2] 36 (0, 0)) := by
    rw [← hW0, Below.heap_alloc _ _ _ (by first | (simp; done) | (simp; omega))]
    have := heap_alloc_last ((w.alloc (.cells #[u] 30)).alloc (.cells #[v] 36)) (.cells #[v2] 36)
    simpa only [World.size_alloc] using this
  have p3 : W0.heap[w.heap.size + 1 + 1 + 1]? = some (.cells #[.slice none 0 0] 30 (0, 0)) := by
    rw [← hW0]
    have := heap_alloc_last (((w.alloc (.cells #[u] 30)).alloc (.cells #[v] 36)).alloc (.cells #[v2] 36)) (.cells #[.slice none 0 0] 30)
    simpa only [World.size_alloc] using this
  have HW := Lib.hid hW0
  have HB0 := Lib.hid hb0
  have HS0 := Lib.hid hs0
  have KE : Hid (∀ W, Below W0.heap.size W0 W → W.heap[w.heap.size + 1]? = some (.cells #[v] 36 (0, 0)) ∧ SlS W v xs) := fun W hb => ⟨(hb.block _ (by omega)).trans p1, (hv.below hb0).below hb⟩
  have KE2 : Hid (∀ W, Below W0.heap.size W0 W → W.heap[w.heap.size + 1 + 1]? = some (.cells #[v2] 36 (0, 0)) ∧ SlS W v2 ys) := fun W hb => ⟨(hb.block _ (by omega)).trans p2, (hv2.below hb0).below hb⟩
  have KR : Hid (∀ W, Below W0.heap.size W0 W → W.heap[w.heap.size + 1 + 1 + 1]? = some (.cells #[.slice none 0 0] 30 (0, 0))) := fun W hb => (hb.block _ (by omega)).trans p3
  have CI : Hid (∀ W, Below W0.heap.size W0 W → Calls Tryd.prog 54 #[.pointer (some ⟨w.heap.size, 0, none⟩)] W (SaysB (validB ss) W)) := fun W hb => l01Is_any w.heap.size 0 u ss W (cell_of_one ((hb.block _ (by omega)).trans p0)) ((hu.below hb0).below hb) hL hz
  have CE : Hid (∀ W, Below W0.heap.size W0 W → Calls Tryd.prog 55 #[.pointer (some ⟨w.heap.size + 1, 0, none⟩)] W (SaysB (elB xs) W)) := fun W hb => l03Is_any (w.heap.size + 1) v xs W (KE.out W hb).1 hN (KE.out W hb).2
  have CE2 : Hid (∀ W, Below W0.heap.size W0 W → Calls Tryd.prog 55 #[.pointer (some ⟨w.heap.size + 1 + 1, 0, none⟩)] W (SaysB (elB ys) W)) := fun W hb => l03Is_any (w.heap.size + 1 + 1) v2 ys W (KE2.out W hb).1 hN2 (KE2.out W hb).2
  cases hva : validB ss with
  | false =>
    have e0 : Hid (hmOk ss xs ys = false) := by show hmOk ss xs ys = _; unfold hmOk; rw [hva]; rfl
    have e1 : Hid (hmP ss xs ys = []) := by show hmP ss xs ys = _; unfold hmP; rw [e0.out]; rfl
    rw [hva] at CI
    rw [e0.out, e1.out]
    clear hva e0 e1 hu hL hz hv hN hv2 hN2 p0 p1 p2 p3 hW0 hb0 hs0 KE KE2 CE CE2
    go_enter Tryd.func28, Tryd.ntmps28
    go_wp2_with fail
    rw [HW.out]
    refine (CI.out _ (Below.refl _ _)).mono ?_
    rintro e w1 ⟨rfl, hb1⟩
    have hp1 := KR.out _ hb1
    have hfr : w1.frozen? ⟨w.heap.size + 1 + 1 + 1, 0, none⟩ = false := free_of_one hp1
    have hc2 : w1.cell? ⟨w.heap.size + 1 + 1 + 1, 0, none⟩ = some (.slice none 0 0) := cell_of_one hp1
    have B1 : Hid (Below w.heap.size w w1) := HB0.out.trans (hb1.mono HB0.out.size)
    have P1 := Lib.hid hp1
    clear hb1 hp1
    go_wp2_with fail
    refine bodyPost_ret (v := .tuple #[.agg #[.slice none 0 0], .bool false]) (by simp [results, Tryd.results28, go_sem, cell_of_one (one_setCell P1.out)]) rfl ⟨_, _, _, rfl, World.ownsRow_nil _ _ _ _, B1.out.setCell (by show w.heap.size ≤ w.heap.size + 1 + 1 + 1; omega) _⟩
  | true =>
    cases hel : elB xs with
    | false =>
      have e0 : Hid (hmOk ss xs ys = false) := by show hmOk ss xs ys = _; unfold hmOk; rw [hva, hel]; rfl
      have e1 : Hid (hmP ss xs ys = []) := by show hmP ss xs ys = _; unfold hmP; rw [e0.out]; rfl
      rw [hva] at CI
      rw [hel] at CE
      rw [e0.out, e1.out]
      clear hva hel e0 e1 hu hL hz hv hN hv2 hN2 p0 p1 p2 p3 hW0 hb0 hs0 KE KE2 CE2
      go_enter Tryd.func28, Tryd.ntmps28
      go_wp2_with fail
      rw [HW.out]
      refine (CI.out _ (Below.refl _ _)).mono ?_
      rintro e w2 ⟨rfl, hb2⟩
      have HB2 := Lib.hid hb2
      clear hb2
      go_wp2_with fail
      refine (CE.out _ HB2.out).mono ?_
      rintro e w1 ⟨rfl, hb3⟩
      have hb1 := HB2.out.trans (hb3.mono HB2.out.size)
      clear hb3
      have hp1 := KR.out _ hb1
      have hfr : w1.frozen? ⟨w.heap.size + 1 + 1 + 1, 0, none⟩ = false := free_of_one hp1
      have hc2 : w1.cell? ⟨w.heap.size + 1 + 1 + 1, 0, none⟩ = some (.slice none 0 0) := cell_of_one hp1
      have B1 : Hid (Below w.heap.size w w1) := HB0.out.trans (hb1.mono HB0.out.size)
      have P1 := Lib.hid hp1
      clear hb1 hp1
      go_wp2_with fail
      refine bodyPost_ret (v := .tuple #[.agg #[.slice none 0 0], .bool false]) (by simp [results, Tryd.results28, go_sem, cell_of_one (one_setCell P1.out)]) rfl ⟨_, _, _, rfl, World.ownsRow_nil _ _ _ _, B1.out.setCell (by show w.heap.size ≤ w.heap.size + 1 + 1 + 1; omega) _⟩
    | true =>
      cases hel2 : elB ys with
      | false =>
        have e0 : Hid (hmOk ss xs ys = false) := by show hmOk ss xs ys = _; unfold hmOk; rw [hva, hel, hel2]; rfl
        have e1 : Hid (hmP ss xs ys = []) := by show hmP ss xs ys = _; unfold hmP; rw [e0.out]; rfl
        rw [hva] at CI
        rw [hel] at CE
        rw [hel2] at CE2
        rw [e0.out, e1.out]
        clear hva hel hel2 e0 e1 hu hL hz hv hN hv2 hN2 p0 p1 p2 p3 hW0 hb0 hs0 KE KE2
        go_enter Tryd.func28, Tryd.ntmps28
        go_wp2_with fail
        rw [HW.out]
        refine (CI.out _ (Below.refl _ _)).mono ?_
        rintro e w2 ⟨rfl, hb2⟩
        have HB2 := Lib.hid hb2
        clear hb2
        go_wp2_with fail
        refine (CE.out _ HB2.out).mono ?_
        rintro e w3 ⟨rfl, hb3⟩
        have HB3 := Lib.hid (HB2.out.trans (hb3.mono HB2.out.size))
        clear hb3
        go_wp2_with fail
        refine (CE2.out _ HB3.out).mono ?_
        rintro e w1 ⟨rfl, hb4⟩
        have hb1 := HB3.out.trans (hb4.mono HB3.out.size)
        clear hb4
        have hp1 := KR.out _ hb1
        have hfr : w1.frozen? ⟨w.heap.size + 1 + 1 + 1, 0, none⟩ = false := free_of_one hp1
        have hc2 : w1.cell? ⟨w.heap.size + 1 + 1 + 1, 0, none⟩ = some (.slice none 0 0) := cell_of_one hp1
        have B1 : Hid (Below w.heap.size w w1) := HB0.out.trans (hb1.mono HB0.out.size)
        have P1 := Lib.hid hp1
        clear hb1 hp1
        go_wp2_with fail
        refine bodyPost_ret (v := .tuple #[.agg #[.slice none 0 0], .bool false]) (by simp [results, Tryd.results28, go_sem, cell_of_one (one_setCell P1.out)]) rfl ⟨_, _, _, rfl, World.ownsRow_nil _ _ _ _, B1.out.setCell (by show w.heap.size ≤ w.heap.size + 1 + 1 + 1; omega) _⟩
      | true =>
        have e0 : Hid (hmOk ss xs ys = true) := by show hmOk ss xs ys = _; unfold hmOk; rw [hva, hel, hel2]; rfl
        have e1 : Hid (hmP ss xs ys = mkPic (row0 ss).size ss.length (hmF ss xs ys)) := by show hmP ss xs ys = _; unfold hmP; rw [e0.out]; rfl
        rw [hva] at CI
        rw [hel] at CE
        rw [hel2] at CE2
        rw [e0.out, e1.out]
        obtain ⟨i0, hinf, hz0, hz1, hz2⟩ := info_parts Tryd.info4
        have hpa : ∀ W, Below W0.heap.size W0 W → PicAt W w.heap.size 0 ss := fun W hb => ⟨hva, u, cell_of_one ((hb.block _ (by omega)).trans p0), (hu.below hb0).below hb⟩
        have V := vp_of hva
        have hw1 := V.w1
        have hw16 := V.w16
        have hn1 := V.n1
        have hn16 := V.n16
        have CW : Hid (∀ W, PicAt W w.heap.size 0 ss → Calls Tryd.prog 57 #[.pointer (some ⟨w.heap.size, 0, none⟩)] W fun e w' => e = .returned (.int .i64 (row0 ss).size) ∧ W = w') := fun W h => l01Width_any _ _ ss W h
        have CH : Hid (∀ W, PicAt W w.heap.size 0 ss → Calls Tryd.prog 56 #[.pointer (some ⟨w.heap.size, 0, none⟩)] W fun e w' => e = .returned (.int .i64 ss.length) ∧ W = w') := fun W h => l01Height_any _ _ ss W h
        have CF : Hid (∀ (x y : Nat), x < 16 → y < 16 → ∀ W, Below W0.heap.size W0 W → Calls Tryd.prog 58 #[.pointer (some ⟨w.heap.size, 0, none⟩), .pointer (some ⟨w.heap.size + 1, 0, none⟩), .int .i64 x, .int .i64 y] W (SaysB (fitB ss xs x y) W)) := fun x y h1 h2 W hb =>
          l03Fits_any w.heap.size (w.heap.size + 1) ss v xs x y W (hpa W hb) (KE.out W hb).1 (KE.out W hb).2 hN hel (by omega) (by omega)
        have CK : Hid (∀ X Y W, PicAt W w.heap.size 0 ss → Calls Tryd.prog 59 #[.pointer (some ⟨w.heap.size, 0, none⟩), .int .i64 X, .int .i64 Y] W fun e w' => e = .returned (.bool (pixI ss X Y)) ∧ W = w') := fun X Y W h => l01Black_any w.heap.size 0 ss X Y W h
        have HR := Lib.hid (elB_range hel2)
        have HSn : Hid (∀ X Y k, msK ss ys X Y (k + 1) = (msK ss ys X Y k && !pixI ss (X + (ys.getD k (0, 0)).1) (Y + (ys.getD k (0, 0)).2))) := msK_snoc ss ys
        have HLe : Hid (∀ X Y k n, k ≤ n → msK ss ys X Y k = false → msK ss ys X Y n = false) := fun X Y k n => msK_less ss ys X Y
        have HF : Hid (∀ y x, hmF ss xs ys y x = (fitB ss xs x y && msK ss ys x y ys.length)) := fun _ _ => rfl
        have CM := Lib.hid (fun (lb cap : Nat) (W : World) (hB : Bools W lb 0 (listF (hmF ss xs ys) (row0 ss).size ((row0 ss).size * ss.length))) => make_list (hmF ss xs ys) lb cap (row0 ss).size ss.length W ⟨hw1, hw16⟩ ⟨hn1, hn16⟩ hB)
        obtain ⟨f, hf⟩ : ∃ f, hmF ss xs ys = f := ⟨_, rfl⟩
        rw [hf] at CM HF ⊢
        obtain ⟨wd, hwd⟩ : ∃ k, (row0 ss).size = k := ⟨_, rfl⟩
        obtain ⟨n, hnn⟩ : ∃ k, ss.length = k := ⟨_, rfl⟩
        rw [hwd] at CW CM hw1 hw16 ⊢
        rw [hnn] at CH CM hn1 hn16 ⊢
        have HPA := Lib.hid hpa
        obtain ⟨pic, hpic⟩ : ∃ p, mkPic wd n f = p := ⟨_, rfl⟩
        rw [hpic] at CM ⊢
        obtain ⟨ao, cap, rfl, hsf⟩ := sl_form hv2
        have HSp : Hid (∀ W, Below W0.heap.size W0 W → W.cell? ⟨w.heap.size + 1 + 1, 0, none⟩ = some (.slice ao ys.length cap) ∧ ∀ i, i < ys.length → ∃ b, ao = some ⟨b, 0, none⟩ ∧ b < W.heap.size ∧ W.cell? ⟨b, i * 2, none⟩ = some (.int .i64 (ys.getD i (0, 0)).1) ∧ W.cell? ⟨b, i * 2 + 1, none⟩ = some (.int .i64 (ys.getD i (0, 0)).2)) := fun W hb => by
          refine ⟨cell_of_one (KE2.out W hb).1, fun i hi => ?_⟩
          obtain ⟨b, rfl, hbl, hcs⟩ := hsf (by omega)
          have hbw := hb0.trans (hb.mono hb0.size)
          exact ⟨b, rfl, Nat.lt_of_lt_of_le hbl hbw.size, cell_kept hbw (hcs i hi).1, cell_kept hbw (hcs i hi).2⟩
        obtain ⟨m, hm⟩ : ∃ m, ys.length = m := ⟨_, rfl⟩
        rw [hm] at HR HF HSp hN2
        clear hva hel hel2 e0 e1 hu hL hz hv hN hv2 hsf p0 p1 p2 p3 hW0 hb0 hs0 KE KE2 V hpa hf hwd hnn hpic hm
        go_enter Tryd.func28, Tryd.ntmps28
        go_wp2_with fail
        rw [HW.out]
        refine (CI.out _ (Below.refl _ _)).mono ?_
        rintro e w2 ⟨rfl, hb2⟩
        have HB2 := Lib.hid hb2
        clear hb2
        go_wp2_with fail
        refine (CE.out _ HB2.out).mono ?_
        rintro e w3 ⟨rfl, hb3⟩
        have HB3 := Lib.hid (HB2.out.trans (hb3.mono HB2.out.size))
        clear hb3
        go_wp2_with fail
        refine (CE2.out _ HB3.out).mono ?_
        rintro e w4 ⟨rfl, hb4⟩
        have HB4 := Lib.hid (HB3.out.trans (hb4.mono HB3.out.size))
        have hl4 : World.ownsRow (w4.alloc (.cells #[] 4)) W0.heap.size 4 1 (.slice (some ⟨w4.heap.size, 0, none⟩) 0 0) 0 (boolV (listF f wd 0)) := by
          have := World.ownsRow_lit (base := W0.heap.size) (e := 4) (size := 1) w4 #[] 0 HB4.out.size (by unfold maxLen; omega) rfl
          simpa [boolV, listF] using this
        have L4 := Lib.hid hl4
        have HB5 := Lib.hid (HB4.out.alloc HB4.out.size (.cells #[] 4))
        clear hb4 CI CE CE2 hl4
        go_wp2_with fail
        go_loopw [8, 9] (fun v yv wr => ∃ (u : Value) (y : Nat), u = v ∧ y ≤ n ∧ yv = .int .i64 y ∧ Hid (wr.ownsRow W0.heap.size 4 1 u (y * wd) (boolV (listF f wd (y * wd)))) ∧ Hid (Below W0.heap.size W0 wr)) (fun _ yv _ => n - (intOf yv).toNat)
        case atStart => exact ⟨_, 0, rfl, Nat.zero_le _, rfl, by rw [Nat.zero_mul]; exact L4, HB5⟩
        case round =>
          clear L4 HB5 HB4 HB3 HB2
          obtain ⟨u8, y, rfl, hy, rfl, HO, HB⟩ := hrel
          have A0 := Lib.hid (HPA.out _ HB.out)
          by_cases hlt : y < n
          · have kyn : (y : Int) < (n : Int) := by omega
            go_wp2_with fail
            refine (CH.out _ A0.out).mono ?_
            rintro e w' ⟨rfl, rfl⟩
            go_wp2_with fail
            go_loopw [8, 10] (fun v xv wr => ∃ (u : Value) (x : Nat), u = v ∧ x ≤ wd ∧ xv = .int .i64 x ∧ Hid (wr.ownsRow W0.heap.size 4 1 u (y * wd + x) (boolV (listF f wd (y * wd + x)))) ∧ Hid (Below W0.heap.size W0 wr)) (fun _ xv _ => wd - (intOf xv).toNat)
            case atStart => exact ⟨_, 0, rfl, Nat.zero_le _, rfl, HO, HB⟩
            case round =>
              clear HO HB A0
              obtain ⟨u8, x, rfl, hx, rfl, HO, HB⟩ := hrel
              have A0 := Lib.hid (HPA.out _ HB.out)
              by_cases hlt2 : x < wd
              · have kxw : (x : Int) < (wd : Int) := by omega
                have hx16 : x < 16 := by omega
                have hy16 : y < 16 := by omega
                have HFx := Lib.hid (HF.out y x)
                have HSNf := Lib.hid (listF_snoc f wd y x hlt2)
                have hNle : y * wd ≤ 256 := Nat.le_trans (Nat.mul_le_mul hy (Nat.le_refl _)) (Nat.mul_le_mul hn16 hw16)
                obtain ⟨M, hM⟩ : ∃ M, y * wd + x = M := ⟨_, rfl⟩
                have HM := Lib.hid hM
                rw [hM] at HO HSNf
                have hM2 : M ≤ 300 := by omega
                clear hM
                go_wp2_with fail
                refine (CW.out _ A0.out).mono ?_
                rintro e w' ⟨rfl, rfl⟩
                go_wp2_with fail
                refine (CF.out x y hx16 hy16 _ HB.out).mono ?_
                rintro e w6 ⟨rfl, hb6⟩
                have O6 := Lib.hid (own_below HO.out hb6)
                have B6 := Lib.hid (HB.out.trans (hb6.mono HB.out.size))
                clear hb6 HO HB A0
                obtain ⟨ft, hft⟩ : ∃ b, fitB ss xs x y = b := ⟨_, rfl⟩
                rw [hft] at HFx
                rw [hft]
                clear hft
                go_wp2_with fail
                go_loopw [11, 12] (fun bv iv wr => ∃ (q : Bool) (i : Nat), i ≤ m ∧ bv = .bool q ∧ iv = .int .i64 i ∧ Hid (q = (ft && msK ss ys x y i)) ∧ Hid (Below w6.heap.size w6 wr)) (fun _ iv _ => m - (intOf iv).toNat)
                case atStart => exact ⟨ft, 0, Nat.zero_le _, rfl, rfl, by show ft = _; rw [show msK ss ys x y 0 = true from rfl, Bool.and_true], Below.refl _ _⟩
                case round =>
                  obtain ⟨q, i, hi, rfl, rfl, HQ, HBi⟩ := hrel
                  have B7 := Lib.hid (B6.out.trans (HBi.out.mono B6.out.size))
                  have A7 := Lib.hid (HPA.out _ B7.out)
                  have hcs := (HSp.out _ B7.out).1
                  have lp2 : w.heap.size + 1 + 1 < wr.heap.size := by have := B7.out.size; have := HS0.out; omega
                  by_cases hgo : i < m ∧ q = true
                  · obtain ⟨hlt3, rfl⟩ := hgo
                    have klt : (i : Int) < (m : Int) := by omega
                    obtain ⟨b, rfl, lb, c0, c1⟩ := (HSp.out _ B7.out).2 i hlt3
                    obtain ⟨⟨r1, r2⟩, r3, r4⟩ := HR.out i hlt3
                    have HPw : Hid (∀ k, PicAt (wr.drewN k) w.heap.size 0 ss) := fun k => HPA.out _ (B7.out.trans (Joins.below_draws W0.heap.size _ _))
                    have HBd : ∀ k, Hid (Below w6.heap.size w6 (wr.drewN k)) := fun k => HBi.out.trans (Joins.below_draws w6.heap.size _ _)
                    have HSi := Lib.hid (HSn.out x y i)
                    obtain ⟨X, hX⟩ : ∃ X, (ys.getD i (0, 0)).1 = X := ⟨_, rfl⟩
                    obtain ⟨Y, hY⟩ : ∃ Y, (ys.getD i (0, 0)).2 = Y := ⟨_, rfl⟩
                    rw [hX] at c0 HSi r1 r2
                    rw [hY] at c1 HSi r3 r4
                    have CBi := Lib.hid (CK.out ((x : Int) + X) ((y : Int) + Y))
                    have e1 : IntKind.i64.wrap ((x : Int) + X) = (x : Int) + X := IntWalk.i64_in _ (by omega)
                    have e2 : IntKind.i64.wrap ((y : Int) + Y) = (y : Int) + Y := IntWalk.i64_in _ (by omega)
                    obtain ⟨t, ht⟩ : ∃ t, pixI ss ((x : Int) + X) ((y : Int) + Y) = t := ⟨_, rfl⟩
                    rw [ht] at CBi HSi
                    have HQ2 : Hid ((!t) = (ft && msK ss ys x y (i + 1))) := by
                      show (!t) = _
                      rw [HSi.out, ← Bool.and_assoc, ← HQ.out, Bool.true_and]
                    clear hX hY ht A7 B7 HBi
                    go_wp2_with fail
                    go_quiet ((go_at_call 59; exact Calls.quiet_of_same ((CBi.out _ (HPw.out _)).mono fun e w' ⟨he, hw⟩ => ⟨he, hw.symm⟩)))
                    clear e1 e2
                    go_wp2
                    go_roundw
                    case rel => exact ⟨!t, i + 1, by omega, rfl, by go_num, HQ2, HBd _⟩
                    case measure => simp [intOf]; omega
                  · have HQe : Hid (f y x = q) := by
                      show f y x = q
                      rw [HFx.out]
                      by_cases hq : q = true
                      · have : i = m := by
                          rcases Nat.lt_or_ge i m with h | h
                          · exact absurd ⟨h, hq⟩ hgo
                          · omega
                        rw [← this]; exact HQ.out.symm
                      · have hqf : q = false := by simpa using hq
                        rw [hqf] at HQ ⊢
                        have h1 := HQ.out
                        cases ft with
                        | false => rfl
                        | true =>
                          rw [Bool.true_and] at h1
                          rw [Bool.true_and]
                          exact HLe.out x y i m hi h1.symm
                    have O7 := Lib.hid (own_below O6.out HBi.out)
                    rw [HQe.out] at HSNf
                    clear O6 B6 HBi A7 HQ HFx HQe
                    by_cases hlt3 : i < m
                    · obtain rfl : q = false := by cases q with | false => rfl | true => exact absurd ⟨hlt3, rfl⟩ hgo
                      have klt : (i : Int) < (m : Int) := by omega
                      clear hgo
                      have hs7 := B7.out.size
                      go_wp2_with (at_builtin; refine wpList_append_own _ rfl _ _ 74 rfl W0.heap.size 4 i0 (.bool false) 1 1 Tryd.underlying74 hinf hz0 hz1 hz2 rfl (by decide) _ _ _ rfl (O7.out.alloc _) ⟨wr.heap.size, 0, none⟩ 1 1 [.bool false] rfl rfl (cell_one_new _ _ _) (by intro u hu; simp at hu; subst hu; rfl) (by unfold maxLen; omega) (by omega) (by simp; omega) ?_)
                      intro v' w8 hown' hgr _
                      have o1 := O7.out.alloc (.cells #[.bool false] 4)
                      have B8 : Hid (Below W0.heap.size W0 w8) := (B7.out.alloc hs7 _).grown hgr (by simp; omega) (fun k hk => (o1.lt k hk).1)
                      have O8 : Hid (w8.ownsRow W0.heap.size 4 1 v' (y * wd + (x + 1)) (boolV (listF f wd (y * wd + (x + 1))))) := by
                        show World.ownsRow _ _ _ _ _ _ _
                        rw [show y * wd + (x + 1) = M + 1 from by rw [← HM.out]; omega, HSNf.out]
                        exact hown'
                      clear hown' hgr o1
                      go_wp2
                      go_roundw
                      case rel => exact ⟨_, x + 1, rfl, by omega, by go_num, O8, B8⟩
                      case measure => simp [intOf]; omega
                    · have klt : ¬ (i : Int) < (m : Int) := by omega
                      clear hgo
                      have hs7 := B7.out.size
                      go_wp2_with (at_builtin; refine wpList_append_own _ rfl _ _ 74 rfl W0.heap.size 4 i0 (.bool false) 1 1 Tryd.underlying74 hinf hz0 hz1 hz2 rfl (by decide) _ _ _ rfl (O7.out.alloc _) ⟨wr.heap.size, 0, none⟩ 1 1 [.bool q] rfl rfl (cell_one_new _ _ _) (by intro u hu; simp at hu; subst hu; rfl) (by unfold maxLen; omega) (by omega) (by simp; omega) ?_)
                      intro v' w8 hown' hgr _
                      have o1 := O7.out.alloc (.cells #[.bool q] 4)
                      have B8 : Hid (Below W0.heap.size W0 w8) := (B7.out.alloc hs7 _).grown hgr (by simp; omega) (fun k hk => (o1.lt k hk).1)
                      have O8 : Hid (w8.ownsRow W0.heap.size 4 1 v' (y * wd + (x + 1)) (boolV (listF f wd (y * wd + (x + 1))))) := by
                        show World.ownsRow _ _ _ _ _ _ _
                        rw [show y * wd + (x + 1) = M + 1 from by rw [← HM.out]; omega, HSNf.out]
                        exact hown'
                      clear hown' hgr o1
                      go_wp2
                      go_roundw
                      case rel => exact ⟨_, x + 1, rfl, by omega, by go_num, O8, B8⟩
                      case measure => simp [intOf]; omega
              · obtain rfl : x = wd := by omega
                have e1 : y * x + x = (y + 1) * x := by rw [Nat.add_mul, Nat.one_mul]
                rw [e1] at HO
                clear e1
                go_wp2_with fail
                refine (CW.out _ A0.out).mono ?_
                rintro e w' ⟨rfl, rfl⟩
                go_wp2
                go_roundw
                case rel => exact ⟨_, y + 1, rfl, hlt, by go_num, HO, HB⟩
                case measure => simp [intOf]; omega
          · obtain rfl : y = n := by omega
            rw [Nat.mul_comm y wd] at HO
            have h1 : 1 * 1 ≤ wd * y := Nat.mul_le_mul hw1 hn1
            obtain ⟨g, cap2, rfl⟩ := Joins.ownsRow_form HO.out (by omega)
            have HBl : Hid (Bools wr g 0 (listF f wd (wd * y))) := own_bools HO.out (listF_len _ _ _)
            have P1 := Lib.hid (KR.out _ HB.out)
            clear HO h1
            go_wp2_with fail
            refine (CH.out _ A0.out).mono ?_
            rintro e w' ⟨rfl, rfl⟩
            go_wp2_with fail
            refine (CW.out _ A0.out).mono ?_
            rintro e w' ⟨rfl, rfl⟩
            go_wp2_with fail
            refine (CM.out _ _ _ HBl.out).mono ?_
            rintro e w4 ⟨g4, cap4, rfl, hown4, hb4⟩
            have hp2 := (hb4.block _ (Array.getElem?_eq_some_iff.1 P1.out).1).trans P1.out
            have hfr : w4.frozen? ⟨w.heap.size + 1 + 1 + 1, 0, none⟩ = false := free_of_one hp2
            have hc2 : w4.cell? ⟨w.heap.size + 1 + 1 + 1, 0, none⟩ = some (.slice none 0 0) := cell_of_one hp2
            have O2 := Lib.hid (own_set (u := .slice (some ⟨g4, 0, none⟩) pic.length cap4) hown4 hp2 (by decide))
            have P4 := Lib.hid hp2
            have B4 := Lib.hid (HB0.out.trans ((HB.out.trans (hb4.mono HB.out.size)).mono HB0.out.size))
            have hs3 := Nat.le_trans HB0.out.size HB.out.size
            clear hown4 hp2 hb4
            go_wp2_with fail
            refine bodyPost_ret (v := .tuple #[.agg #[.slice (some ⟨g4, 0, none⟩) pic.length cap4], .bool true]) (by simp [results, Tryd.results28, go_sem, cell_of_one (one_setCell P4.out)]) rfl ⟨_, _, _, rfl, Joins.ownsRow_le O2.out hs3, B4.out.setCell (by show w.heap.size ≤ w.heap.size + 1 + 1 + 1; omega) _⟩
end Go.Proofs.YtenbhnfajjknkaaDoor
