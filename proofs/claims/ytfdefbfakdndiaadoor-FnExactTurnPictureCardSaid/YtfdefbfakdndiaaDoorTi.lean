/- Contracts of single functions, and plain lemmas, on which the exact laws of this seat rest; each holds under the conditions that it states. -/
import Derived.Test.YtfdefbfakdndiaaDoorTe
namespace Go.Proofs.YtfdefbfakdndiaaDoor
set_option linter.unusedVariables false
open Go.RowKit


set_option maxHeartbeats 1600000 in
set_option maxRecDepth 100000 in
theorem impl_Turn_3 (v : Value) (ss : List ByteArray) (a b : Nat) (w : World) (ha : (row0 ss).size = a) (hbb : ss.length = b) (hN : ss.length ≤ maxLen) (hz : ∀ s ∈ ss, s.size ≤ maxLen) (hv : Sl w v ss) (he : ErrLen w) (hok : validB ss = true) :
    Calls Tryd.prog 41 #[.agg #[v], .int .i64 3] w (SaysPic (mkPic b a (tu3 ss a b)) true w) := by
  have V := vp_of hok
  have hw16 := V.w16
  have hn16 := V.n16
  have hb0 : Below w.heap.size w ((w.alloc (.cells #[v] 28)).alloc (.cells #[.slice none 0 0] 28)) := Joins.below_alloc2 w _ _
  have hl1 : ((w.alloc (.cells #[v] 28)).alloc (.cells #[.slice none 0 0] 28)).heap[w.heap.size]? = some (.cells #[v] 28 (0, 0)) := by
    rw [Below.heap_alloc _ _ _ (by simp)]; exact heap_alloc_last w _
  have hl2 : ((w.alloc (.cells #[v] 28)).alloc (.cells #[.slice none 0 0] 28)).heap[w.heap.size + 1]? = some (.cells #[.slice none 0 0] 28 (0, 0)) := by
    have := heap_alloc_last (w.alloc (.cells #[v] 28)) (.cells #[.slice none 0 0] 28)
    simp only [World.size_alloc] at this
    exact this
  have L2 := Lib.hid hl2
  have hcv : ((w.alloc (.cells #[v] 28)).alloc (.cells #[.slice none 0 0] 28)).cell? ⟨w.heap.size, 0, none⟩ = some v := cell_of_one hl1
  have C := Lib.hid (matrixOf_any v ss _ hN hz (hv.below hb0) (he.below hb0))
  have hsz := matC_size ss
  have hone := matC_one ss
  have hMM := matC_yes hok
  unfold MatOf at C
  obtain ⟨M, hM⟩ : ∃ M, matC ss = M := ⟨_, rfl⟩
  rw [hM] at C hsz hone hMM
  have HI : Hid ((Tryd.prog.info? 70).map (·.size) = some M.size) := by show _ = _; rw [hsz]; exact infoM
  have HZ := Lib.hid (zeros_size.trans hsz.symm)
  have HO := Lib.hid hone
  have hG : ∀ j, wordsOf ss j < 4294967296 := fun j => words_lt V j
  have HBk : Hid (∀ (x y : Int) W, Calls Tryd.prog 53 #[.agg M, .int .i64 x, .int .i64 y] W (SaysB (pixI ss x y) W)) := fun x y W => by
    have := black_any M (row0 ss).size ss.length (wordsOf ss) x y W hMM hw16 hn16 hG
    rwa [words_bit V] at this
  have hF : ∀ x y : Nat, pixI ss (y : Int) ((b : Int) - 1 - (x : Int)) = tu3 ss a b y x := fun x y => rfl
  have HOk := Lib.hid hok
  obtain ⟨f, hf⟩ : ∃ f, tu3 ss a b = f := ⟨_, rfl⟩
  rw [hf] at hF ⊢
  have HF := Lib.hid hF
  rw [ha] at hMM hw16
  rw [hbb] at hMM hn16
  have HT : Hid (∀ (x y : Nat) W, x ≤ 16 → y ≤ 16 → Calls Tryd.prog 81 #[.agg M, .int .i64 3, .int .i64 x, .int .i64 y] W (fun e w' => e = .returned (.agg #[.int .i64 (y : Int), .int .i64 ((b : Int) - 1 - (x : Int))]) ∧ Below W.heap.size W w')) := fun x y W hx hy =>
    turnedSpot_3 M a b (wordsOf ss) x y W hMM hw16 hn16 (by omega) (by omega)
  have HMM := Lib.hid hMM
  clear hb0 hl1 hl2 hok hM hsz hone hMM V hv he hf ha hbb hF hG
  go_enter Tryd.func41, Tryd.ntmps41
  go_wp2_with fail
  refine C.out.mono ?_
  rintro e w1 ⟨rfl, hb⟩
  rw [HOk.out]
  have B1 : Hid (Below w.heap.size w w1) := (Joins.below_alloc2 w _ _).trans (hb.mono (by simp; omega))
  have P1 := Lib.hid ((hb.block (w.heap.size + 1) (by simp)).trans L2.out)
  have hs1 := B1.out.size
  have hl1 : w.heap.size + 1 < w1.heap.size := (Array.getElem?_eq_some_iff.1 P1.out).1
  have hm0 : (w1.alloc (.cells M 70)).heap[w1.heap.size]? = some (.cells M 70 (0, 0)) := heap_alloc_last w1 _
  have ca : (w1.alloc (.cells M 70)).cell? ⟨w1.heap.size, 0, none⟩ = some (.int .i64 a) := by
    rw [Joins.cell_of_block hm0 0, HMM.out]; rfl
  have cb : (w1.alloc (.cells M 70)).cell? ⟨w1.heap.size, 1, none⟩ = some (.int .i64 b) := by
    rw [Joins.cell_of_block hm0 1, HMM.out]; rfl
  have hm2 : ((w1.alloc (.cells M 70)).alloc (.cells (mcells a b (fun _ => 0)) 70)).heap[w1.heap.size]? = some (.cells M 70 (0, 0)) := by
    rw [Below.heap_alloc _ _ _ (by simp)]; exact hm0
  have hs2 : ((w1.alloc (.cells M 70)).alloc (.cells (mcells a b (fun _ => 0)) 70)).heap[w1.heap.size + 1]? = some (.cells (mcells a b (fun _ => 0)) 70 (0, 0)) := by
    have := heap_alloc_last (w1.alloc (.cells M 70)) (.cells (mcells a b (fun _ => 0)) 70)
    simp only [World.size_alloc] at this
    exact this
  have HM2 := Lib.hid hm2
  have HS2 := Lib.hid hs2
  have ca2 : ((w1.alloc (.cells M 70)).alloc (.cells (mcells a b (fun _ => 0)) 70)).cell? ⟨w1.heap.size, 0, none⟩ = some (.int .i64 a) := by
    rw [Joins.cell_of_block hm2 0, HMM.out]; rfl
  have cb2 : ((w1.alloc (.cells M 70)).alloc (.cells (mcells a b (fun _ => 0)) 70)).cell? ⟨w1.heap.size, 1, none⟩ = some (.int .i64 b) := by
    rw [Joins.cell_of_block hm2 1, HMM.out]; rfl
  have f0 : ((w1.alloc (.cells M 70)).alloc (.cells (mcells a b (fun _ => 0)) 70)).frozen? ⟨w1.heap.size + 1, 0, none⟩ = false := Joins.unfrozen_of_block hs2 _
  have f1 : ((w1.alloc (.cells M 70)).alloc (.cells (mcells a b (fun _ => 0)) 70)).frozen? ⟨w1.heap.size + 1, 1, none⟩ = false := Joins.unfrozen_of_block hs2 _
  have d0 : ((w1.alloc (.cells M 70)).alloc (.cells (mcells a b (fun _ => 0)) 70)).cell? ⟨w1.heap.size + 1, 0, none⟩ = some (.int .i64 a) := (Joins.cell_of_block hs2 0).trans rfl
  have d1 : ((w1.alloc (.cells M 70)).alloc (.cells (mcells a b (fun _ => 0)) 70)).cell? ⟨w1.heap.size + 1, 1, none⟩ = some (.int .i64 b) := (Joins.cell_of_block hs2 1).trans rfl
  have t0 : (mcells (a : Int) (b : Int) (fun _ => 0))[0]? = some (.int .i64 a) := rfl
  have t1 : (mcells (a : Int) (b : Int) (fun _ => 0))[1]? = some (.int .i64 b) := rfl
  have m0 : M[0]? = some (.int .i64 a) := by rw [HMM.out]; rfl
  have m1 : M[1]? = some (.int .i64 b) := by rw [HMM.out]; rfl
  clear hb hcv hm0 hm2 hs2
  go_wp2_with (first | (refine wpList_store_new w1 rfl 70 _ _ rfl M rfl rfl 70 zeros HI.out HZ.out HO.out ?_) | (refine wpList_store_new2 w1 (.cells M 70) rfl 70 _ _ rfl (mcells a b (fun _ => 0)) rfl rfl 70 zeros infoM rfl (mcells_one _ _ _) ?_))
  go_region
  generalize hW : World.drew _ = W3
  have hsf := swap_facts hW
  have HS3 : Hid (W3.heap[w1.heap.size + 1]? = some (.cells (mcells b a (fun _ => 0)) 70 (0, 0))) := hsf.2.1
  have HM3 := Lib.hid hsf.1
  have HB3 := Lib.hid hsf.2.2
  have c1 : W3.cell? ⟨w1.heap.size + 1, 1, none⟩ = some (.int .i64 a) := (Joins.cell_of_block HS3.out 1).trans rfl
  clear hW hsf ca2 cb2 f0 f1 d0 d1 t0 t1 m0 m1
  go_wp2
  go_loopw [47] (fun yv wr => ∃ y : Nat, y ≤ a ∧ yv = .int .i64 y ∧ wr.heap[w1.heap.size]? = some (.cells M 70 (0, 0)) ∧ (∃ g, TuG wr (w1.heap.size + 1) b a g (fun j _ => j < y) f) ∧ Below w1.heap.size w1 wr) (fun yv _ => a - (intOf yv).toNat)
  case atStart => exact ⟨0, Nat.zero_le _, rfl, HM3.out, ⟨_, TuG.zero HS3.out (fun j i => by omega)⟩, HB3.out⟩
  case round =>
    clear c1 ca cb
    obtain ⟨y, hy, rfl, hm, ⟨g, hT⟩, hbel⟩ := hrel
    have M3 := Lib.hid hm
    have T3 := Lib.hid hT
    have B3 := Lib.hid hbel
    have hs3 := hbel.size
    have l3 : w1.heap.size + 1 < wr.heap.size := (Array.getElem?_eq_some_iff.1 hT.c).1
    by_cases hlt : y < a
    · have kyb : (y : Int) < (a : Int) := by omega
      have c0 : wr.cell? ⟨w1.heap.size + 1, 0, none⟩ = some (.int .i64 b) := (Joins.cell_of_block hT.c 0).trans rfl
      clear hm hT hbel
      go_wp2
      go_loopw [52] (fun xv wr => ∃ x : Nat, x ≤ b ∧ xv = .int .i64 x ∧ wr.heap[w1.heap.size]? = some (.cells M 70 (0, 0)) ∧ (∃ g, TuG wr (w1.heap.size + 1) b a g (fun j i => j < y ∨ (j = y ∧ i < x)) f) ∧ Below w1.heap.size w1 wr) (fun xv _ => b - (intOf xv).toNat)
      case atStart => exact ⟨0, Nat.zero_le _, rfl, M3.out, ⟨g, T3.out.imp (fun j i _ _ h => by omega)⟩, B3.out⟩
      case round =>
        clear M3 T3 B3 c0 l3 hs3
        obtain ⟨x, hx, rfl, hm, ⟨g, hT⟩, hbel⟩ := hrel
        have M3 := Lib.hid hm
        have T3 := Lib.hid hT
        have B3 := Lib.hid hbel
        have hs3 := hbel.size
        have l3 : w1.heap.size + 1 < wr.heap.size := (Array.getElem?_eq_some_iff.1 hT.c).1
        clear hm hT hbel
        by_cases hlt2 : x < b
        · have kxw : (x : Int) < (b : Int) := by omega
          have hfx := HF.out x y
          obtain ⟨bt, hbt⟩ : ∃ t, f y x = t := ⟨_, rfl⟩
          rw [hbt] at hfx
          have HFX := Lib.hid hfx
          have HBT := Lib.hid hbt
          clear hfx hbt
          go_wp2_with (refine wpList_load_row rfl 70 _ rfl w1.heap.size rfl 70 M (0, 0) _ M3.out Tryd.underlying70 rfl HI.out ?_)
          refine (HT.out x y _ (by omega) (by omega)).mono ?_
          rintro e w4 ⟨rfl, hb4⟩
          have hba := hb4.trans ((Joins.below_alloc1 w4 (.cells #[.int .i64 (y : Int), .int .i64 ((b : Int) - 1 - (x : Int))] 49)).mono hb4.size)
          have M5 := Lib.hid ((hba.block w1.heap.size (by omega)).trans M3.out)
          have T5 := Lib.hid (T3.out.below hba)
          have B5 := Lib.hid (B3.out.trans (hba.mono hs3))
          clear hb4 hba
          go_wp2_with (refine wpList_load_row rfl 70 _ rfl w1.heap.size rfl 70 M (0, 0) _ M5.out Tryd.underlying70 rfl HI.out ?_)
          refine (HBk.out _ _ _).mono ?_
          rintro e w6 ⟨rfl, hb6⟩
          rw [HFX.out]
          have M6 := Lib.hid ((hb6.block w1.heap.size (Array.getElem?_eq_some_iff.1 M5.out).1).trans M5.out)
          have T6 := Lib.hid (T5.out.below hb6)
          have B6 := Lib.hid (B5.out.trans (hb6.mono B5.out.size))
          clear hb6
          go_wp2_with fail
          refine (set_any (w1.heap.size + 1) b a g x y bt _ T6.out.c (by omega) (by omega) (T6.out.lt _)).mono ?_
          rintro e w7 ⟨rfl, hset, hb7⟩
          have M7 := Lib.hid ((hb7.block w1.heap.size (by omega)).trans M6.out)
          have T7 : Hid (TuG w7 (w1.heap.size + 1) b a (updG g y x bt) (fun j i => j < y ∨ (j = y ∧ i < x + 1)) f) := T6.out.step (by omega) hset (by omega) HBT.out.symm (fun j i _ _ h => by omega)
          have B7 := Lib.hid (B6.out.trans (hb7.mono (by omega)))
          clear hset hb7
          go_wp2
          go_roundw
          case rel => exact ⟨x + 1, by omega, by go_num, M7.out, ⟨_, T7.out⟩, B7.out⟩
          case measure => simp [intOf]; omega
        · obtain rfl : x = b := by omega
          go_wp2
          go_roundw
          case rel => exact ⟨y + 1, by omega, by go_num, M3.out, ⟨g, T3.out.imp (fun j i _ _ h => by omega)⟩, B3.out⟩
          case measure => simp [intOf]; omega
    · obtain rfl : y = a := by omega
      have hpi := fun W => picture_any (mat b y g) b y g W rfl (by omega) (by omega) hT.lt
      rw [hT.pic (fun j i hj _ => hj)] at hpi
      have HPi := Lib.hid hpi
      obtain ⟨pic, hpic⟩ : ∃ x, mkPic b y f = x := ⟨_, rfl⟩
      have HE := Lib.hid hpic
      rw [hpic] at HPi
      have hc3 := hT.c
      obtain ⟨M2, hM2⟩ : ∃ M2, mat b y g = M2 := ⟨_, rfl⟩
      have hsz2 : M2.size = 18 := by rw [← hM2]; rfl
      have HI2 : Hid ((Tryd.prog.info? 70).map (·.size) = some M2.size) := by show _ = _; rw [hsz2]; exact infoM
      rw [hM2] at hc3 HPi
      have S3 := Lib.hid hc3
      have P3 := Lib.hid ((hbel.block (w.heap.size + 1) hl1).trans P1.out)
      have B5 : Hid (Below w.heap.size w wr) := B1.out.trans (hbel.mono hs1)
      clear hm hT hbel hM2 hsz2 hc3 hpi hpic T3 M3 B3
      go_wp2_with (refine wpList_load_row rfl 70 _ rfl (w1.heap.size + 1) rfl 70 M2 (0, 0) _ S3.out Tryd.underlying70 rfl HI2.out ?_)
      refine (HPi.out _).mono ?_
      rintro e w4 ⟨g4, cap4, rfl, hown4, hb4⟩
      have hp2 := (hb4.block (w.heap.size + 1) (Array.getElem?_eq_some_iff.1 P3.out).1).trans P3.out
      have hfr : w4.frozen? ⟨w.heap.size + 1, 0, none⟩ = false := free_of_one hp2
      have hc2 : w4.cell? ⟨w.heap.size + 1, 0, none⟩ = some (.slice none 0 0) := cell_of_one hp2
      have O2 := Lib.hid (own_set (u := .slice (some ⟨g4, 0, none⟩) pic.length cap4) hown4 hp2 (by decide))
      have P4 := Lib.hid hp2
      have B4 := Lib.hid (B5.out.trans (hb4.mono B5.out.size))
      have hs4 := B5.out.size
      clear hown4 hp2 hb4
      go_wp2_with fail
      refine bodyPost_ret (v := .tuple #[.agg #[.slice (some ⟨g4, 0, none⟩) pic.length cap4], .bool true]) (by simp [results, Tryd.results41, go_sem, cell_of_one (one_setCell P4.out)]) rfl ?_
      rw [HE.out]
      exact ⟨_, _, _, rfl, Joins.ownsRow_le O2.out hs4, B4.out.setCell (by simp) _⟩
end Go.Proofs.YtfdefbfakdndiaaDoor
