/- Contracts of single functions, and plain lemmas, on which the exact laws of this seat rest; each holds under the conditions that it states. -/
import Derived.Test.YtenbhnfajjknkaaDoorL9
import Derived.Test.YtenbhnfajjknkaaDoorMw
import Derived.Test.YtenbhnfajjknkaaDoorLf
import Derived.Test.YtenbhnfajjknkaaDoorCc
import Derived.Test.YtenbhnfajjknkaaDoorAn
import Derived.Test.YtenbhnfajjknkaaDoorB4
namespace Go.Proofs.YtenbhnfajjknkaaDoor
set_option linter.unusedVariables false
open Go.RowKit

/-- a pixel of what an element makes -/
def pxF (k : Nat) (ss : List ByteArray) (xs : List (Int × Int)) (y x : Nat) : Bool := pxB k ss xs x y

set_option maxHeartbeats 4000000 in
set_option maxRecDepth 100000 in
theorem l03Make_any (k : Nat) (hk : k < 4) (pb pe : Nat) (ss : List ByteArray) (v : Value) (xs : List (Int × Int)) (w : World) (hpa : PicAt w pb 0 ss) (he : w.heap[pe]? = some (.cells #[v] 36 (0, 0))) (hv : SlS w v xs) (hN : xs.length ≤ 1048576) (hok : elB xs = true) :
    Calls Tryd.prog 67 #[.pointer (some ⟨pb, 0, none⟩), .pointer (some ⟨pe, 0, none⟩), .int .i64 k] w (TookPic w (mkPic (row0 ss).size ss.length (pxF k ss xs))) := by
  obtain ⟨i0, hi, hz0, hz1, hz2⟩ := info_parts Tryd.info4
  obtain ⟨b0, off0, cap0, hcc, hst, V⟩ := hpa.open'
  have hw1 := V.w1
  have hw16 := V.w16
  have hn1 := V.n1
  have hn16 := V.n16
  have hlpe := (Array.getElem?_eq_some_iff.1 he).1
  have hP0 : Hid ((w.alloc (.cells #[.slice none 0 0] 30)).heap[w.heap.size]? = some (.cells #[.slice none 0 0] 30 (0, 0))) := heap_alloc_last w _
  have CW : Hid (∀ W, PicAt W pb 0 ss → Calls Tryd.prog 57 #[.pointer (some ⟨pb, 0, none⟩)] W fun e w' => e = .returned (.int .i64 (row0 ss).size) ∧ W = w') := fun W h => l01Width_any _ _ ss W h
  have CH : Hid (∀ W, PicAt W pb 0 ss → Calls Tryd.prog 56 #[.pointer (some ⟨pb, 0, none⟩)] W fun e w' => e = .returned (.int .i64 ss.length) ∧ W = w') := fun W h => l01Height_any _ _ ss W h
  have CB : Hid (∀ (x y : Nat), x < 16 → y < 16 → ∀ W, Below w.heap.size w W → Calls Tryd.prog 97 #[.pointer (some ⟨pb, 0, none⟩), .pointer (some ⟨pe, 0, none⟩), .int .i64 k, .int .i64 x, .int .i64 y] W (SaysB (pxF k ss xs y x) W)) := fun x y h1 h2 W hb =>
    pixel_any k hk pb pe ss v xs x y W (hpa.below hb) ((hb.block _ hlpe).trans he) (hv.below hb) hN hok (by omega) (by omega)
  have CM := Lib.hid (fun (lb cap : Nat) (W : World) (hB : Bools W lb 0 (listF (pxF k ss xs) (row0 ss).size ((row0 ss).size * ss.length))) => make_list (pxF k ss xs) lb cap (row0 ss).size ss.length W ⟨hw1, hw16⟩ ⟨hn1, hn16⟩ hB)
  obtain ⟨f, hf⟩ : ∃ f, pxF k ss xs = f := ⟨_, rfl⟩
  rw [hf] at CB CM ⊢
  obtain ⟨wd, hwd⟩ : ∃ k, (row0 ss).size = k := ⟨_, rfl⟩
  obtain ⟨n, hnn⟩ : ∃ k, ss.length = k := ⟨_, rfl⟩
  rw [hwd] at CW CM hw1 hw16 ⊢
  rw [hnn] at CH CM hn1 hn16 ⊢
  have HPA := Lib.hid hpa
  have hlp : pb < w.heap.size := blk_lt hcc
  obtain ⟨pic, hpic⟩ : ∃ p, mkPic wd n f = p := ⟨_, rfl⟩
  rw [hpic] at CM ⊢
  clear hcc hst V hpa hf hwd hnn hpic he hv hN hok hk hlpe
  go_enter Tryd.func67, Tryd.ntmps67
  go_wp2
  go_loopw [7, 8] (fun v yv wr => ∃ y : Nat, y ≤ n ∧ yv = .int .i64 y ∧ wr.ownsRow (w.heap.size + 1) 4 1 v (y * wd) (boolV (listF f wd (y * wd))) ∧ Below (w.heap.size + 1) (w.alloc (.cells #[.slice none 0 0] 30)) wr) (fun _ yv _ => n - (intOf yv).toNat)
  case atStart =>
    refine ⟨0, Nat.zero_le _, rfl, ?_, ?_⟩
    · rw [Nat.zero_mul]
      have := World.ownsRow_lit (base := w.heap.size + 1) (e := 4) (size := 1) (w.alloc (.cells #[.slice none 0 0] 30)) #[] 0 (by simp) (by unfold maxLen; omega) rfl
      simpa [boolV, listF] using this
    · exact (Below.refl _ _).alloc (by simp) _
  case round =>
    obtain ⟨y, hy, rfl, hown, hbel⟩ := hrel
    have B0 : Hid (Below w.heap.size w wr) := (Joins.below_alloc1 w (.cells #[.slice none 0 0] 30)).trans (hbel.mono (by simp))
    have A0 := Lib.hid (HPA.out.below B0.out)
    by_cases hlt : y < n
    · have kyn : (y : Int) < (n : Int) := by omega
      have HO := Lib.hid hown
      have HB := Lib.hid hbel
      clear hown hbel
      go_wp2_with fail
      refine (CH.out _ A0.out).mono ?_
      rintro e w' ⟨rfl, rfl⟩
      go_wp2_with fail
      go_loopw [7, 9] (fun v xv wr => ∃ x : Nat, x ≤ wd ∧ xv = .int .i64 x ∧ wr.ownsRow (w.heap.size + 1) 4 1 v (y * wd + x) (boolV (listF f wd (y * wd + x))) ∧ Below (w.heap.size + 1) (w.alloc (.cells #[.slice none 0 0] 30)) wr) (fun _ xv _ => wd - (intOf xv).toNat)
      case atStart => exact ⟨0, Nat.zero_le _, rfl, HO.out, HB.out⟩
      case round =>
        clear HO HB A0 B0
        obtain ⟨x, hx, rfl, hown, hbel⟩ := hrel
        have B0 : Hid (Below w.heap.size w wr) := (Joins.below_alloc1 w (.cells #[.slice none 0 0] 30)).trans (hbel.mono (by simp))
        have A0 := Lib.hid (HPA.out.below B0.out)
        by_cases hlt2 : x < wd
        · have kxw : (x : Int) < (wd : Int) := by omega
          have hsn := listF_snoc f wd y x hlt2
          have cb := CB.out x y (by omega) (by omega)
          obtain ⟨bt, hbt⟩ : ∃ t, f y x = t := ⟨_, rfl⟩
          rw [hbt] at hsn cb
          have CBt := Lib.hid cb
          have hNle : y * wd ≤ 256 := Nat.le_trans (Nat.mul_le_mul hy (Nat.le_refl _)) (Nat.mul_le_mul hn16 hw16)
          have hs1 := hbel.size
          have HO := Lib.hid hown
          have HB := Lib.hid hbel
          have HSN := Lib.hid hsn
          obtain ⟨M, hM⟩ : ∃ M, y * wd + x = M := ⟨_, rfl⟩
          have HM := Lib.hid hM
          rw [hM] at HO HSN
          have hM2 : M ≤ 300 := by omega
          clear hown hbel hsn hM hbt cb
          go_wp2_with fail
          refine (CW.out _ A0.out).mono ?_
          rintro e w' ⟨rfl, rfl⟩
          go_wp2_with fail
          refine (CBt.out _ B0.out).mono ?_
          rintro e w5 ⟨rfl, hb5⟩
          have hs5 := hb5.size
          have HO5 := Lib.hid (own_below HO.out hb5)
          have HB5 := Lib.hid (HB.out.trans (hb5.mono (by simp at hs1 ⊢; omega)))
          clear hb5
          go_wp2_with (at_builtin; refine wpList_append_own _ rfl _ _ 74 rfl (w.heap.size + 1) 4 i0 (.bool false) 1 1 Tryd.underlying74 hi hz0 hz1 hz2 rfl (by decide) _ _ _ rfl (HO5.out.alloc _) ⟨w5.heap.size, 0, none⟩ 1 1 [.bool bt] rfl rfl (cell_one_new _ _ _) (by intro u hu; simp at hu; subst hu; rfl) (by unfold maxLen; omega) (by omega) (by simp at hs1 hs5 ⊢; omega) ?_)
          intro v' w2 hown' hgr _
          have o1 := HO5.out.alloc (.cells #[.bool bt] 4)
          have B2 : Hid (Below (w.heap.size + 1) (w.alloc (.cells #[.slice none 0 0] 30)) w2) := (HB5.out.alloc (by simp at hs1; omega) _).grown hgr (by simp at hs1 hs5 ⊢; omega) (fun k hk => (o1.lt k hk).1)
          have O2 : Hid (w2.ownsRow (w.heap.size + 1) 4 1 v' (y * wd + (x + 1)) (boolV (listF f wd (y * wd + (x + 1))))) := by
            show World.ownsRow _ _ _ _ _ _ _
            rw [show y * wd + (x + 1) = M + 1 from by rw [← HM.out]; omega, HSN.out]
            exact hown'
          clear hown' hgr o1
          go_wp2
          go_roundw
          case rel => exact ⟨x + 1, by omega, by go_num, O2.out, B2.out⟩
          case measure => simp [intOf]; omega
        · obtain rfl : x = wd := by omega
          have e1 : y * x + x = (y + 1) * x := by rw [Nat.add_mul, Nat.one_mul]
          rw [e1] at hown
          have HO := Lib.hid hown
          have HB := Lib.hid hbel
          clear hown hbel e1
          go_wp2_with fail
          refine (CW.out _ A0.out).mono ?_
          rintro e w' ⟨rfl, rfl⟩
          go_wp2
          go_roundw
          case rel => exact ⟨y + 1, hlt, by go_num, HO.out, HB.out⟩
          case measure => simp [intOf]; omega
    · obtain rfl : y = n := by omega
      rw [Nat.mul_comm y wd] at hown
      have h1 : 1 * 1 ≤ wd * y := Nat.mul_le_mul hw1 hn1
      obtain ⟨g, cap2, rfl⟩ := Joins.ownsRow_form hown (by omega)
      have HBl : Hid (Bools wr g 0 (listF f wd (wd * y))) := own_bools hown (listF_len _ _ _)
      have P1 := Lib.hid ((hbel.block w.heap.size (by simp)).trans hP0.out)
      clear hown hbel h1
      go_wp2_with fail
      refine (CH.out _ A0.out).mono ?_
      rintro e w' ⟨rfl, rfl⟩
      go_wp2_with fail
      refine (CW.out _ A0.out).mono ?_
      rintro e w' ⟨rfl, rfl⟩
      go_wp2_with fail
      refine (CM.out _ _ _ HBl.out).mono ?_
      rintro e w4 ⟨g4, cap4, rfl, hown4, hb4⟩
      have hp2 := (hb4.block w.heap.size (Array.getElem?_eq_some_iff.1 P1.out).1).trans P1.out
      have hfr : w4.frozen? ⟨w.heap.size, 0, none⟩ = false := free_of_one hp2
      have hc2 : w4.cell? ⟨w.heap.size, 0, none⟩ = some (.slice none 0 0) := cell_of_one hp2
      have O2 := Lib.hid (own_set (u := .slice (some ⟨g4, 0, none⟩) pic.length cap4) hown4 hp2 (by decide))
      have P4 := Lib.hid hp2
      have B4 := Lib.hid (B0.out.trans (hb4.mono B0.out.size))
      have hs3 := B0.out.size
      clear hown4 hp2 hb4
      go_wp2_with fail
      refine bodyPost_ret (v := .agg #[.slice (some ⟨g4, 0, none⟩) pic.length cap4]) (by simp [results, Tryd.results67, go_sem, cell_of_one (one_setCell P4.out)]) rfl ⟨g4, cap4, rfl, Joins.ownsRow_le O2.out hs3, B4.out.setCell (by simp) _⟩
end Go.Proofs.YtenbhnfajjknkaaDoor

/- Contracts of single functions, and plain lemmas, on which the exact laws of this seat rest; each holds under the conditions that it states. -/
namespace Go.Proofs.YtenbhnfajjknkaaDoor
set_option linter.unusedVariables false
open Go.RowKit

/-- what an element makes of a picture, of any picture and element -/
def pxOk (ss : List ByteArray) (xs : List (Int × Int)) : Bool := validB ss && elB xs
def pxP (k : Nat) (ss : List ByteArray) (xs : List (Int × Int)) : List ByteArray := if pxOk ss xs then mkPic (row0 ss).size ss.length (pxF k ss xs) else []

set_option maxHeartbeats 2000000 in
set_option maxRecDepth 100000 in
theorem l03Both_any (k : Nat) (hk : k < 4) (pb pe : Nat) (ss : List ByteArray) (u v : Value) (xs : List (Int × Int)) (w : World) (hp : w.heap[pb]? = some (.cells #[u] 30 (0, 0))) (hu : Sl w u ss) (hL : ss.length ≤ maxLen) (hz : ∀ s ∈ ss, s.size ≤ maxLen) (he : w.heap[pe]? = some (.cells #[v] 36 (0, 0))) (hv : SlS w v xs) (hN : xs.length ≤ 1048576) :
    Calls Tryd.prog 41 #[.pointer (some ⟨pb, 0, none⟩), .pointer (some ⟨pe, 0, none⟩), .int .i64 k] w (SaysPic (pxP k ss xs) (pxOk ss xs) w) := by
  have hlb := (Array.getElem?_eq_some_iff.1 hp).1
  have hle := (Array.getElem?_eq_some_iff.1 he).1
  have KE : ∀ W, Below w.heap.size w W → W.heap[pe]? = some (.cells #[v] 36 (0, 0)) := fun W hb => (hb.block _ hle).trans he
  have CI : Hid (∀ W, Below w.heap.size w W → Calls Tryd.prog 54 #[.pointer (some ⟨pb, 0, none⟩)] W (SaysB (validB ss) W)) := fun W hb => l01Is_any pb 0 u ss W (cell_of_one ((hb.block _ hlb).trans hp)) (hu.below hb) hL hz
  have CE : Hid (∀ W, Below w.heap.size w W → Calls Tryd.prog 55 #[.pointer (some ⟨pe, 0, none⟩)] W (SaysB (elB xs) W)) := fun W hb => l03Is_any pe v xs W (KE W hb) hN (hv.below hb)
  have hb0 : Hid (Below w.heap.size w (w.alloc (.cells #[.slice none 0 0] 30))) := Joins.below_alloc1 w _
  have L2 : Hid ((w.alloc (.cells #[.slice none 0 0] 30)).heap[w.heap.size]? = some (.cells #[.slice none 0 0] 30 (0, 0))) := heap_alloc_last w _
  cases hva : validB ss with
  | false =>
    have e0 : Hid (pxOk ss xs = false) := by show pxOk ss xs = _; unfold pxOk; rw [hva]; rfl
    have e1 : Hid (pxP k ss xs = []) := by show pxP k ss xs = _; unfold pxP; rw [e0.out]; rfl
    rw [e0.out, e1.out]
    rw [hva] at CI
    clear hva e0 e1 hp hu hL hz he hv hN hlb hle KE CE hk
    go_enter Tryd.func41, Tryd.ntmps41
    go_wp2_with fail
    refine (CI.out _ hb0.out).mono ?_
    rintro e w1 ⟨rfl, hb1⟩
    have hp1 := (hb1.block w.heap.size (by simp)).trans L2.out
    have hfr : w1.frozen? ⟨w.heap.size, 0, none⟩ = false := free_of_one hp1
    have hc2 : w1.cell? ⟨w.heap.size, 0, none⟩ = some (.slice none 0 0) := cell_of_one hp1
    have B1 : Hid (Below w.heap.size w w1) := hb0.out.trans (hb1.mono (by simp))
    have P1 := Lib.hid hp1
    clear hb1 hp1
    go_wp2_with fail
    refine bodyPost_ret (v := .tuple #[.agg #[.slice none 0 0], .bool false]) (by simp [results, Tryd.results41, go_sem, cell_of_one (one_setCell P1.out)]) rfl ⟨_, _, _, rfl, World.ownsRow_nil _ _ _ _, B1.out.setCell (by simp) _⟩
  | true =>
    cases hel : elB xs with
    | false =>
      have e0 : Hid (pxOk ss xs = false) := by show pxOk ss xs = _; unfold pxOk; rw [hva, hel]; rfl
      have e1 : Hid (pxP k ss xs = []) := by show pxP k ss xs = _; unfold pxP; rw [e0.out]; rfl
      rw [e0.out, e1.out]
      rw [hva] at CI
      rw [hel] at CE
      clear hva hel e0 e1 hp hu hL hz he hv hN hlb hle KE hk
      go_enter Tryd.func41, Tryd.ntmps41
      go_wp2_with fail
      refine (CI.out _ hb0.out).mono ?_
      rintro e w2 ⟨rfl, hb2⟩
      have HB2 := Lib.hid hb2
      clear hb2
      go_wp2_with fail
      refine (CE.out _ (hb0.out.trans (HB2.out.mono (by simp)))).mono ?_
      rintro e w1 ⟨rfl, hb3⟩
      have hb1 := HB2.out.trans (hb3.mono HB2.out.size)
      clear hb3
      have hp1 := (hb1.block w.heap.size (by simp)).trans L2.out
      have hfr : w1.frozen? ⟨w.heap.size, 0, none⟩ = false := free_of_one hp1
      have hc2 : w1.cell? ⟨w.heap.size, 0, none⟩ = some (.slice none 0 0) := cell_of_one hp1
      have B1 : Hid (Below w.heap.size w w1) := hb0.out.trans (hb1.mono (by simp))
      have P1 := Lib.hid hp1
      clear hb1 hp1
      go_wp2_with fail
      refine bodyPost_ret (v := .tuple #[.agg #[.slice none 0 0], .bool false]) (by simp [results, Tryd.results41, go_sem, cell_of_one (one_setCell P1.out)]) rfl ⟨_, _, _, rfl, World.ownsRow_nil _ _ _ _, B1.out.setCell (by simp) _⟩
    | true =>
      have e0 : Hid (pxOk ss xs = true) := by show pxOk ss xs = _; unfold pxOk; rw [hva, hel]; rfl
      have e1 : Hid (pxP k ss xs = mkPic (row0 ss).size ss.length (pxF k ss xs)) := by show pxP k ss xs = _; unfold pxP; rw [e0.out, if_pos rfl]
      rw [e0.out, e1.out]
      have CM : Hid (∀ W, Below w.heap.size w W → Calls Tryd.prog 67 #[.pointer (some ⟨pb, 0, none⟩), .pointer (some ⟨pe, 0, none⟩), .int .i64 k] W (TookPic W (mkPic (row0 ss).size ss.length (pxF k ss xs)))) := fun W hb => l03Make_any k hk pb pe ss v xs W ⟨hva, u, cell_of_one ((hb.block _ hlb).trans hp), hu.below hb⟩ (KE W hb) (hv.below hb) hN hel
      obtain ⟨pic, hpic⟩ : ∃ x, mkPic (row0 ss).size ss.length (pxF k ss xs) = x := ⟨_, rfl⟩
      rw [hpic] at CM ⊢
      rw [hva] at CI
      rw [hel] at CE
      clear hva hel hpic e0 e1 hp hu hL hz he hv hN hlb hle KE hk
      go_enter Tryd.func41, Tryd.ntmps41
      go_wp2_with fail
      refine (CI.out _ hb0.out).mono ?_
      rintro e w2 ⟨rfl, hb2⟩
      have HB2 := Lib.hid hb2
      clear hb2
      go_wp2_with fail
      refine (CE.out _ (hb0.out.trans (HB2.out.mono (by simp)))).mono ?_
      rintro e w1 ⟨rfl, hb3⟩
      have hb1 := HB2.out.trans (hb3.mono HB2.out.size)
      have P1 := Lib.hid ((hb1.block w.heap.size (by simp)).trans L2.out)
      have B1 : Hid (Below w.heap.size w w1) := hb0.out.trans (hb1.mono (by simp))
      clear hb1 hb3
      go_wp2_with fail
      refine (CM.out _ B1.out).mono ?_
      rintro e w4 ⟨g4, cap4, rfl, hown4, hb4⟩
      have hp2 := (hb4.block w.heap.size (Array.getElem?_eq_some_iff.1 P1.out).1).trans P1.out
      have hfr : w4.frozen? ⟨w.heap.size, 0, none⟩ = false := free_of_one hp2
      have hc2 : w4.cell? ⟨w.heap.size, 0, none⟩ = some (.slice none 0 0) := cell_of_one hp2
      have O2 := Lib.hid (own_set (u := .slice (some ⟨g4, 0, none⟩) pic.length cap4) hown4 hp2 (by decide))
      have P4 := Lib.hid hp2
      have B4 := Lib.hid (B1.out.trans (hb4.mono B1.out.size))
      have hs3 := B1.out.size
      clear hown4 hp2 hb4
      go_wp2_with fail
      refine bodyPost_ret (v := .tuple #[.agg #[.slice (some ⟨g4, 0, none⟩) pic.length cap4], .bool true]) (by simp [results, Tryd.results41, go_sem, cell_of_one (one_setCell P4.out)]) rfl ⟨_, _, _, rfl, Joins.ownsRow_le O2.out hs3, B4.out.setCell (by simp) _⟩
end Go.Proofs.YtenbhnfajjknkaaDoor

/- Contracts of single functions, and plain lemmas, on which the exact laws of this seat rest; each holds under the conditions that it states. -/
namespace Go.Proofs.YtenbhnfajjknkaaDoor
set_option linter.unusedVariables false
open Go.RowKit

/-- the start world of a call with a picture, an element and a picture's result -/
def bxPE (w : World) (u v : Value) : World := ((w.alloc (.cells #[u] 30)).alloc (.cells #[v] 36)).alloc (.cells #[.slice none 0 0] 30)
theorem bxPE_below (w : World) (u v : Value) : Below w.heap.size w (bxPE w u v) := (Joins.below_alloc2 w _ _).alloc (by simp; omega) _
theorem bxPE_0 (w : World) (u v : Value) : (bxPE w u v).heap[w.heap.size]? = some (.cells #[u] 30 (0, 0)) := by
  unfold bxPE; rw [Below.heap_alloc _ _ _ (by simp; omega), Below.heap_alloc _ _ _ (by simp)]; exact heap_alloc_last w _
theorem bxPE_1 (w : World) (u v : Value) : (bxPE w u v).heap[w.heap.size + 1]? = some (.cells #[v] 36 (0, 0)) := by
  unfold bxPE; rw [Below.heap_alloc _ _ _ (by simp)]
  have := heap_alloc_last (w.alloc (.cells #[u] 30)) (.cells #[v] 36)
  simp only [World.size_alloc] at this
  exact this
theorem bxPE_2 (w : World) (u v : Value) : (bxPE w u v).heap[w.heap.size + 1 + 1]? = some (.cells #[.slice none 0 0] 30 (0, 0)) := by
  have := heap_alloc_last ((w.alloc (.cells #[u] 30)).alloc (.cells #[v] 36)) (.cells #[.slice none 0 0] 30)
  simp only [World.size_alloc] at this
  exact this
theorem bxPE_size (w : World) (u v : Value) : (bxPE w u v).heap.size = w.heap.size + 3 := by unfold bxPE; simp

set_option maxHeartbeats 1000000 in
set_option maxRecDepth 100000 in
theorem spec_Dilate (u v : Value) (ss : List ByteArray) (xs : List (Int × Int)) (w : World) (hL : ss.length ≤ maxLen) (hz : ∀ s ∈ ss, s.size ≤ maxLen) (hu : Sl w u ss) (hN : xs.length ≤ 1048576) (hv : SlS w v xs) :
    Calls Tryd.prog 13 #[.agg #[u], .agg #[v]] w (SaysPic (pxP 0 ss xs) (pxOk ss xs) w) := by
  have C := Lib.hid (l03Both_any 0 (by decide) w.heap.size (w.heap.size + 1) ss u v xs (bxPE w u v) (bxPE_0 w u v) (hu.below (bxPE_below w u v)) hL hz (bxPE_1 w u v) (hv.below (bxPE_below w u v)) hN)
  have L2 := Lib.hid (bxPE_2 w u v)
  have hb0 := Lib.hid (bxPE_below w u v)
  have hS := bxPE_size w u v
  obtain ⟨pic, hpic⟩ : ∃ x, pxP 0 ss xs = x := ⟨_, rfl⟩
  obtain ⟨ok, hok⟩ : ∃ x, pxOk ss xs = x := ⟨_, rfl⟩
  rw [hpic, hok] at C ⊢
  clear hpic hok hL hz hu hN hv
  go_enter Tryd.func13, Tryd.ntmps13
  go_wp2_with fail
  refine C.out.mono ?_
  rintro e w4 ⟨g4, n4, cap4, rfl, hown4, hb4⟩
  have hp2 := (hb4.block (w.heap.size + 1 + 1) (by rw [hS]; omega)).trans L2.out
  have hfr : w4.frozen? ⟨w.heap.size + 1 + 1, 0, none⟩ = false := free_of_one hp2
  have hc2 : w4.cell? ⟨w.heap.size + 1 + 1, 0, none⟩ = some (.slice none 0 0) := cell_of_one hp2
  have O2 := Lib.hid (own_set (u := .slice g4 n4 cap4) hown4 hp2 (by decide))
  have P4 := Lib.hid hp2
  have B4 := Lib.hid (hb0.out.trans (hb4.mono (by rw [hS]; omega)))
  clear hown4 hp2 hb4
  go_wp2_with fail
  refine bodyPost_ret (v := .tuple #[.agg #[.slice g4 n4 cap4], .bool ok]) (by simp [results, Tryd.results13, go_sem, cell_of_one (one_setCell P4.out)]) rfl ⟨_, _, _, rfl, Joins.ownsRow_le O2.out (by rw [hS]; omega), B4.out.setCell (by show w.heap.size ≤ w.heap.size + 1 + 1; omega) _⟩

set_option maxHeartbeats 1000000 in
set_option maxRecDepth 100000 in
theorem spec_Erode (u v : Value) (ss : List ByteArray) (xs : List (Int × Int)) (w : World) (hL : ss.length ≤ maxLen) (hz : ∀ s ∈ ss, s.size ≤ maxLen) (hu : Sl w u ss) (hN : xs.length ≤ 1048576) (hv : SlS w v xs) :
    Calls Tryd.prog 22 #[.agg #[u], .agg #[v]] w (SaysPic (pxP 1 ss xs) (pxOk ss xs) w) := by
  have C := Lib.hid (l03Both_any 1 (by decide) w.heap.size (w.heap.size + 1) ss u v xs (bxPE w u v) (bxPE_0 w u v) (hu.below (bxPE_below w u v)) hL hz (bxPE_1 w u v) (hv.below (bxPE_below w u v)) hN)
  have L2 := Lib.hid (bxPE_2 w u v)
  have hb0 := Lib.hid (bxPE_below w u v)
  have hS := bxPE_size w u v
  obtain ⟨pic, hpic⟩ : ∃ x, pxP 1 ss xs = x := ⟨_, rfl⟩
  obtain ⟨ok, hok⟩ : ∃ x, pxOk ss xs = x := ⟨_, rfl⟩
  rw [hpic, hok] at C ⊢
  clear hpic hok hL hz hu hN hv
  go_enter Tryd.func22, Tryd.ntmps22
  go_wp2_with fail
  refine C.out.mono ?_
  rintro e w4 ⟨g4, n4, cap4, rfl, hown4, hb4⟩
  have hp2 := (hb4.block (w.heap.size + 1 + 1) (by rw [hS]; omega)).trans L2.out
  have hfr : w4.frozen? ⟨w.heap.size + 1 + 1, 0, none⟩ = false := free_of_one hp2
  have hc2 : w4.cell? ⟨w.heap.size + 1 + 1, 0, none⟩ = some (.slice none 0 0) := cell_of_one hp2
  have O2 := Lib.hid (own_set (u := .slice g4 n4 cap4) hown4 hp2 (by decide))
  have P4 := Lib.hid hp2
  have B4 := Lib.hid (hb0.out.trans (hb4.mono (by rw [hS]; omega)))
  clear hown4 hp2 hb4
  go_wp2_with fail
  refine bodyPost_ret (v := .tuple #[.agg #[.slice g4 n4 cap4], .bool ok]) (by simp [results, Tryd.results22, go_sem, cell_of_one (one_setCell P4.out)]) rfl ⟨_, _, _, rfl, Joins.ownsRow_le O2.out (by rw [hS]; omega), B4.out.setCell (by show w.heap.size ≤ w.heap.size + 1 + 1; omega) _⟩

set_option maxHeartbeats 1000000 in
set_option maxRecDepth 100000 in
theorem spec_Open (u v : Value) (ss : List ByteArray) (xs : List (Int × Int)) (w : World) (hL : ss.length ≤ maxLen) (hz : ∀ s ∈ ss, s.size ≤ maxLen) (hu : Sl w u ss) (hN : xs.length ≤ 1048576) (hv : SlS w v xs) :
    Calls Tryd.prog 24 #[.agg #[u], .agg #[v]] w (SaysPic (pxP 2 ss xs) (pxOk ss xs) w) := by
  have C := Lib.hid (l03Both_any 2 (by decide) w.heap.size (w.heap.size + 1) ss u v xs (bxPE w u v) (bxPE_0 w u v) (hu.below (bxPE_below w u v)) hL hz (bxPE_1 w u v) (hv.below (bxPE_below w u v)) hN)
  have L2 := Lib.hid (bxPE_2 w u v)
  have hb0 := Lib.hid (bxPE_below w u v)
  have hS := bxPE_size w u v
  obtain ⟨pic, hpic⟩ : ∃ x, pxP 2 ss xs = x := ⟨_, rfl⟩
  obtain ⟨ok, hok⟩ : ∃ x, pxOk ss xs = x := ⟨_, rfl⟩
  rw [hpic, hok] at C ⊢
  clear hpic hok hL hz hu hN hv
  go_enter Tryd.func24, Tryd.ntmps24
  go_wp2_with fail
  refine C.out.mono ?_
  rintro e w4 ⟨g4, n4, cap4, rfl, hown4, hb4⟩
  have hp2 := (hb4.block (w.heap.size + 1 + 1) (by rw [hS]; omega)).trans L2.out
  have hfr : w4.frozen? ⟨w.heap.size + 1 + 1, 0, none⟩ = false := free_of_one hp2
  have hc2 : w4.cell? ⟨w.heap.size + 1 + 1, 0, none⟩ = some (.slice none 0 0) := cell_of_one hp2
  have O2 := Lib.hid (own_set (u := .slice g4 n4 cap4) hown4 hp2 (by decide))
  have P4 := Lib.hid hp2
  have B4 := Lib.hid (hb0.out.trans (hb4.mono (by rw [hS]; omega)))
  clear hown4 hp2 hb4
  go_wp2_with fail
  refine bodyPost_ret (v := .tuple #[.agg #[.slice g4 n4 cap4], .bool ok]) (by simp [results, Tryd.results24, go_sem, cell_of_one (one_setCell P4.out)]) rfl ⟨_, _, _, rfl, Joins.ownsRow_le O2.out (by rw [hS]; omega), B4.out.setCell (by show w.heap.size ≤ w.heap.size + 1 + 1; omega) _⟩

set_option maxHeartbeats 1000000 in
set_option maxRecDepth 100000 in
theorem spec_Close (u v : Value) (ss : List ByteArray) (xs : List (Int × Int)) (w : World) (hL : ss.length ≤ maxLen) (hz : ∀ s ∈ ss, s.size ≤ maxLen) (hu : Sl w u ss) (hN : xs.length ≤ 1048576) (hv : SlS w v xs) :
    Calls Tryd.prog 26 #[.agg #[u], .agg #[v]] w (SaysPic (pxP 3 ss xs) (pxOk ss xs) w) := by
  have C := Lib.hid (l03Both_any 3 (by decide) w.heap.size (w.heap.size + 1) ss u v xs (bxPE w u v) (bxPE_0 w u v) (hu.below (bxPE_below w u v)) hL hz (bxPE_1 w u v) (hv.below (bxPE_below w u v)) hN)
  have L2 := Lib.hid (bxPE_2 w u v)
  have hb0 := Lib.hid (bxPE_below w u v)
  have hS := bxPE_size w u v
  obtain ⟨pic, hpic⟩ : ∃ x, pxP 3 ss xs = x := ⟨_, rfl⟩
  obtain ⟨ok, hok⟩ : ∃ x, pxOk ss xs = x := ⟨_, rfl⟩
  rw [hpic, hok] at C ⊢
  clear hpic hok hL hz hu hN hv
  go_enter Tryd.func26, Tryd.ntmps26
  go_wp2_with fail
  refine C.out.mono ?_
  rintro e w4 ⟨g4, n4, cap4, rfl, hown4, hb4⟩
  have hp2 := (hb4.block (w.heap.size + 1 + 1) (by rw [hS]; omega)).trans L2.out
  have hfr : w4.frozen? ⟨w.heap.size + 1 + 1, 0, none⟩ = false := free_of_one hp2
  have hc2 : w4.cell? ⟨w.heap.size + 1 + 1, 0, none⟩ = some (.slice none 0 0) := cell_of_one hp2
  have O2 := Lib.hid (own_set (u := .slice g4 n4 cap4) hown4 hp2 (by decide))
  have P4 := Lib.hid hp2
  have B4 := Lib.hid (hb0.out.trans (hb4.mono (by rw [hS]; omega)))
  clear hown4 hp2 hb4
  go_wp2_with fail
  refine bodyPost_ret (v := .tuple #[.agg #[.slice g4 n4 cap4], .bool ok]) (by simp [results, Tryd.results26, go_sem, cell_of_one (one_setCell P4.out)]) rfl ⟨_, _, _, rfl, Joins.ownsRow_le O2.out (by rw [hS]; omega), B4.out.setCell (by show w.heap.size ≤ w.heap.size + 1 + 1; omega) _⟩

end Go.Proofs.YtenbhnfajjknkaaDoor

/- Contracts of single functions, and plain lemmas, on which the exact laws of this seat rest; each holds under the conditions that it states. -/
namespace Go.Proofs.YtenbhnfajjknkaaDoor
set_option linter.unusedVariables false
set_option linter.unusedSimpArgs false
open Go.RowKit

theorem fit_any (ss : List ByteArray) (xs : List (Int × Int)) (X Y : Int) : (!anyF (fun i => !fitP ss xs X Y i) xs.length) = fitB ss xs X Y := by
  unfold anyF fitB
  rw [List.all_eq_not_any_not]

end Go.Proofs.YtenbhnfajjknkaaDoor

/- Contracts of single functions, and plain lemmas, on which the exact laws of this seat rest; each holds under the conditions that it states. -/
namespace Go.Proofs.YtenbhnfajjknkaaDoor
set_option linter.unusedVariables false
set_option linter.unusedSimpArgs false
open Go.RowKit

theorem built_pl0 : Tryd.prog.built 68 [] = some zerosP := by kernel_rfl
/-- the plane of a picture, if element and picture are ones -/
def plOk (ss : List ByteArray) (xs : List (Int × Int)) : Array Value := if pxOk ss xs then pl (row0 ss).size ss.length (plOf (wordsOf ss) ss.length) else zerosP
theorem plOk_yes {ss : List ByteArray} {xs : List (Int × Int)} (h : pxOk ss xs = true) : plOk ss xs = pl (row0 ss).size ss.length (plOf (wordsOf ss) ss.length) := by unfold plOk; rw [if_pos h]
theorem plOk_no {ss : List ByteArray} {xs : List (Int × Int)} (h : pxOk ss xs = false) : plOk ss xs = zerosP := by unfold plOk; rw [h]; rfl

set_option maxHeartbeats 4000000 in
set_option maxRecDepth 100000 in
theorem planeWith_any (B : Nat) (u v : Value) (ss : List ByteArray) (xs : List (Int × Int)) (w : World) (hN : ss.length ≤ maxLen) (hz : ∀ s ∈ ss, s.size ≤ maxLen) (hu : Sl w u ss) (hM : xs.length ≤ 1048576) (hwf : ∀ p ∈ xs, (Lit.int .i64 p.1).wf = true ∧ (Lit.int .i64 p.2).wf = true) (hv : SlS w v xs) (he : ErrLen w) (hB : w.heap[B]? = some (.cells #[v] 36 (0, 0))) :
    Calls Tryd.prog 61 #[.agg #[u], .slice (some ⟨B, 0, none⟩) 1 1] w fun e w' => e = .returned (.tuple #[.agg (plOk ss xs), .bool (pxOk ss xs)]) ∧ Below w.heap.size w w' := by
  obtain ⟨W0, hW0⟩ : ∃ W0, ((w.alloc (.cells #[u] 30)).alloc (.cells #[.int .i64 0, .int .i64 0, .int .u32 0, .int .u32 0, .int .u32 0, .int .u32 0, .int .u32 0, .int .u32 0, .int .u32 0, .int .u32 0, .int .u32 0, .int .u32 0, .int .u32 0, .int .u32 0, .int .u32 0, .int .u32 0, .int .u32 0, .int .u32 0, .int .u32 0, .int .u32 0, .int .u32 0, .int .u32 0, .int .u32 0, .int .u32 0, .int .u32 0, .int .u32 0] 68)) = W0 := ⟨_, rfl⟩
  have hzP : zerosP = #[.int .i64 0, .int .i64 0, .int .u32 0, .int .u32 0, .int .u32 0, .int .u32 0, .int .u32 0, .int .u32 0, .int .u32 0, .int .u32 0, .int .u32 0, .int .u32 0, .int .u32 0, .int .u32 0, .int .u32 0, .int .u32 0, .int .u32 0, .int .u32 0, .int .u32 0, .int .u32 0, .int .u32 0, .int .u32 0, .int .u32 0, .int .u32 0, .int .u32 0, .int .u32 0] := rfl
  have hw0 : W0.heap.size = w.heap.size + 1 + 1 := by rw [← hW0]; simp
  have hb0 : Below w.heap.size w W0 := by rw [← hW0]; exact Joins.below_alloc2 _ _ _
  have hp0 : W0.heap[w.heap.size]? = some (.cells #[u] 30 (0, 0)) := by
    rw [← hW0, Below.heap_alloc _ _ _ (by simp)]; exact heap_alloc_last w _
  have hr0 : W0.heap[w.heap.size + 1]? = some (.cells zerosP 68 (0, 0)) := by
    rw [← hW0, hzP]
    exact heap_alloc2_new _ _ _
  have C := Lib.hid (matrixOf_any u ss W0 hN hz (hu.below hb0) (he.below hb0))
  have hsz := matC_size ss
  have hone := matC_one ss
  unfold MatOf at C
  have hlB := (Array.getElem?_eq_some_iff.1 hB).1
  have HBe : Hid (∀ W, Below W0.heap.size W0 W → W.heap[B]? = some (.cells #[v] 36 (0, 0))) := fun W hb => (hb.block _ (Nat.lt_of_lt_of_le hlB hb0.size)).trans ((hb0.block _ hlB).trans hB)
  have HR : Hid (∀ W, Below W0.heap.size W0 W → W.heap[w.heap.size + 1]? = some (.cells zerosP 68 (0, 0))) := fun W hb => (hb.block _ (by omega)).trans hr0
  have CV : Hid (∀ W, Below W0.heap.size W0 W → Calls Tryd.prog 89 #[.agg #[v]] W (SaysB (elB xs) W)) := fun W hb => impl_ValidElement v xs W hM hwf ((hv.below hb0).below hb)
  have CP : Hid (validB ss = true → elB xs = true → ∀ W, Calls Tryd.prog 75 #[.agg (matC ss)] W fun e w' => e = .returned (.agg (plOk ss xs)) ∧ Below W.heap.size W w') := fun h1 h2 W => by
    have V := vp_of h1
    rw [matC_yes h1, plOk_yes (by unfold pxOk; rw [h1, h2]; rfl)]
    exact planeOf_any _ _ _ W V.w16 V.n16 (words_small V)
  have HNo : Hid (pxOk ss xs = false → plOk ss xs = zerosP) := plOk_no
  have HOk : Hid (pxOk ss xs = (validB ss && elB xs)) := rfl
  have HQ : Hid ((plOk ss xs).size = 26 ∧ (plOk ss xs).all (·.oneCell') = true) := by
    show _ ∧ _
    unfold plOk; split
    · exact ⟨pl_size _ _ _, pl_one _ _ _⟩
    · exact ⟨rfl, pcells_one _ _ _⟩
  obtain ⟨Q, hQ⟩ : ∃ Q, plOk ss xs = Q := ⟨_, rfl⟩
  rw [hQ] at CP HNo HQ ⊢
  obtain ⟨ok, hok⟩ : ∃ r, pxOk ss xs = r := ⟨_, rfl⟩
  rw [hok] at HNo HOk ⊢
  have HI4 : Hid ((Tryd.prog.info? 68).map (·.size) = some Q.size) := by show _ = _; rw [HQ.out.1]; exact infoPl
  have HI5 : Hid (zerosP.size = Q.size) := by show _ = _; rw [HQ.out.1]; rfl
  have HI6 : Hid (Q.all (·.oneCell') = true) := HQ.out.2
  have HI7 : Hid ((Tryd.prog.info? 68).map (·.size) = some zerosP.size) := infoPl
  have HI8 : Hid (zerosP.all (·.oneCell') = true) := pcells_one _ _ _
  obtain ⟨M, hMe⟩ : ∃ M, matC ss = M := ⟨_, rfl⟩
  rw [hMe] at C hsz hone CP
  have HI : Hid ((Tryd.prog.info? 99).map (·.size) = some M.size) := by show _ = _; rw [hsz]; exact infoM
  have HZ := Lib.hid (zeros_size.trans hsz.symm)
  have HO := Lib.hid hone
  have HW0 := Lib.hid hW0
  have HB0 := Lib.hid hb0
  have HS0 := Lib.hid hw0
  have c0 : W0.cell? ⟨w.heap.size, 0, none⟩ = some u := cell_of_one hp0
  have HBl : Hid (Tryd.prog.built 68 [] = some zerosP) := built_pl0
  obtain ⟨ao, cap, rfl, _⟩ := sl_form hv
  have hvi : ((Value.slice ao xs.length cap).oneCell') = true := rfl
  clear hW0 hzP hb0 hp0 hr0 hu hv hwf he hMe hsz hone hN hz hM hB hlB hQ hok HQ hw0
  go_enter Tryd.func61, Tryd.ntmps61
  go_upto_region 1 with fail
  rw [HW0.out]
  go_wp2_with fail
  refine C.out.mono ?_
  rintro e w1 ⟨rfl, hb1⟩
  have hs1 := hb1.size
  have M2 := Lib.hid (heap_alloc_last w1 (.cells M 99))
  have B2 := Lib.hid (hb1.alloc hs1 (.cells M 99))
  have hl2 : w1.heap.size < (w1.alloc (.cells M 99)).heap.size := by simp
  clear hb1
  obtain ⟨W4, hW4⟩ : ∃ W4, w1.alloc (.cells M 99) = W4 := ⟨_, rfl⟩
  rw [hW4] at M2 B2 hl2
  have HW4 := Lib.hid hW4
  have HBe4 := HBe.out W4 B2.out
  have hcB : W4.cell? ⟨B, 0, none⟩ = some (.slice ao xs.length cap) := cell_of_one HBe4
  clear hW4
  go_upto_region 3 with (refine wpList_store_new w1 rfl 99 _ _ rfl M rfl rfl 99 zeros HI.out HZ.out HO.out ?_; rw [HW4.out])
  have B5 := Lib.hid (B2.out.alloc B2.out.size (.cells #[.slice ao xs.length cap] 36))
  have M5 := Lib.hid (((Below.refl _ _).alloc (Nat.le_refl _) (.cells #[.slice ao xs.length cap] 36)).block _ hl2 |>.trans M2.out)
  have RES : ∀ W, Below W0.heap.size W0 W → w.heap.size + 1 < W.heap.size := fun W hb => by have := hb.size; have := HS0.out; omega
  cases h1 : validB ss with
  | false =>
    rw [h1] at HOk
    have HF : Hid (ok = false) := HOk.out
    have HRr := Lib.hid (HR.out _ B5.out)
    have HBb := Lib.hid (HB0.out.trans (B5.out.mono HB0.out.size))
    have HEq := Lib.hid (HNo.out HF.out)
    clear CP CV HNo HOk HBe HR
    refine wp_loop_rounds 2 ?_; rw [rounds_succ]
    go_wp2_with fail
    rw [rounds_succ]
    go_wp2_with (first | (refine wpList_build_as rfl 68 _ rfl [] zerosP rfl HBl.out ?_) | (refine wpList_store_row rfl 68 _ _ rfl (w.heap.size + 1) zerosP rfl rfl 68 zerosP HRr.out HI7.out rfl HI8.out ?_))
    exact bodyPost_ret (results_cell_tmp Tryd.results61 _ _ (w.heap.size + 1) 68 zerosP (0, 0) _ rfl (setRow_heap _ _ _ _ _ _ HRr.out) Tryd.underlying68 rfl HI7.out) rfl ⟨by rw [HEq.out, HF.out]; rfl, setRow_below HBb.out (by omega) _⟩
  | true =>
    rw [h1] at HOk CP
    refine wp_loop_rounds 2 ?_; rw [rounds_succ]
    go_wp2_with fail
    refine (CV.out _ B5.out).mono ?_
    rintro e w6 ⟨rfl, hb6⟩
    have B6 := Lib.hid (B5.out.trans (hb6.mono B5.out.size))
    have M6 := Lib.hid ((hb6.block _ (Array.getElem?_eq_some_iff.1 M5.out).1).trans M5.out)
    clear hb6
    cases h2 : elB xs with
    | false =>
      rw [h2] at HOk
      have HF : Hid (ok = false) := HOk.out
      have HRr := Lib.hid (HR.out _ B6.out)
      have HBb := Lib.hid (HB0.out.trans (B6.out.mono HB0.out.size))
      have HEq := Lib.hid (HNo.out HF.out)
      clear CP CV HNo HOk HBe HR
      go_wp2_with fail
      rw [rounds_succ]
      go_wp2_with (first | (refine wpList_build_as rfl 68 _ rfl [] zerosP rfl HBl.out ?_) | (refine wpList_store_row rfl 68 _ _ rfl (w.heap.size + 1) zerosP rfl rfl 68 zerosP HRr.out HI7.out rfl HI8.out ?_))
      exact bodyPost_ret (results_cell_tmp Tryd.results61 _ _ (w.heap.size + 1) 68 zerosP (0, 0) _ rfl (setRow_heap _ _ _ _ _ _ HRr.out) Tryd.underlying68 rfl HI7.out) rfl ⟨by rw [HEq.out, HF.out]; rfl, setRow_below HBb.out (by omega) _⟩
    | true =>
      rw [h2] at HOk
      have HT : Hid (ok = true) := HOk.out
      have CPl := Lib.hid (CP.out trivial h2)
      clear CP CV HNo HOk HBe
      go_wp2_with fail
      rw [rounds_succ]
      go_wp2_with (refine wpList_load_row rfl 99 _ rfl w1.heap.size rfl 99 M (0, 0) _ M6.out Tryd.underlying99 rfl HI.out ?_)
      refine (CPl.out _).mono ?_
      rintro e w7 ⟨rfl, hb7⟩
      have B7 := B6.out.trans (hb7.mono B6.out.size)
      have HRr := Lib.hid (HR.out _ B7)
      have HBb := Lib.hid (HB0.out.trans (B7.mono HB0.out.size))
      clear B7 hb7
      go_wp2_with (refine wpList_store_row rfl 68 _ _ rfl (w.heap.size + 1) Q rfl rfl 68 zerosP HRr.out HI4.out HI5.out HI6.out ?_)
      exact bodyPost_ret (results_cell_tmp Tryd.results61 _ _ (w.heap.size + 1) 68 Q (0, 0) _ rfl (setRow_heap _ _ _ _ _ _ HRr.out) Tryd.underlying68 rfl HI4.out) rfl ⟨by rw [HT.out]; rfl, setRow_below HBb.out (by omega) _⟩
end Go.Proofs.YtenbhnfajjknkaaDoor
