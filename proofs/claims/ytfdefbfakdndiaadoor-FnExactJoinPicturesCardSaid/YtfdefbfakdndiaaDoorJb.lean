/- Contracts of single functions, and plain lemmas, on which the exact laws of this seat rest; each holds under the conditions that it states. -/
import Derived.Test.YtfdefbfakdndiaaDoorJa
namespace Go.Proofs.YtfdefbfakdndiaaDoor
set_option linter.unusedVariables false
set_option linter.unusedSimpArgs false
open Go.RowKit


set_option maxHeartbeats 2000000 in
set_option maxRecDepth 100000 in
theorem l01Join_0 (pb qb : Nat) (ss tt : List ByteArray) (w : World) (hpa : PicAt w pb 0 ss) (hqa : PicAt w qb 0 tt) (hw : (row0 ss).size = (row0 tt).size) (hh : ss.length = tt.length) :
    Calls Tryd.prog 64 #[.int .i64 0, .pointer (some ⟨pb, 0, none⟩), .pointer (some ⟨qb, 0, none⟩)] w (TookPic w (mkPic (row0 ss).size ss.length (joF jF0 ss tt))) := by
  obtain ⟨b0, off0, cap0, hcc, hst, V⟩ := hpa.open'
  have hw1 := V.w1
  have hw16 := V.w16
  have hn1 := V.n1
  have hn16 := V.n16
  have hP0 : Hid ((w.alloc (.cells #[.slice none 0 0] 28)).heap[w.heap.size]? = some (.cells #[.slice none 0 0] 28 (0, 0))) := heap_alloc_last w _
  have CL : ∀ W, PicAt W pb 0 ss → Calls Tryd.prog 91 #[.pointer (some ⟨pb, 0, none⟩)] W (Listed ss W) := fun W h => l01List_any _ _ ss W h
  have CL2 : ∀ W, PicAt W qb 0 tt → Calls Tryd.prog 91 #[.pointer (some ⟨qb, 0, none⟩)] W (Listed tt W) := fun W h => l01List_any _ _ tt W h
  have CW : Hid (∀ W, PicAt W pb 0 ss → Calls Tryd.prog 69 #[.pointer (some ⟨pb, 0, none⟩)] W fun e w' => e = .returned (.int .i64 (row0 ss).size) ∧ W = w') := fun W h => l01Width_any _ _ ss W h
  have hmk : mkPic (row0 ss).size ss.length (fun y x => (mixJ jF0 (pixL ss (row0 ss).size ((row0 ss).size * ss.length)) (pixL tt (row0 ss).size ((row0 ss).size * ss.length)) ((row0 ss).size * ss.length)).getD (y * (row0 ss).size + x) false) = mkPic (row0 ss).size ss.length (joF jF0 ss tt) :=
    mkPic_congr fun y hy x hx => jo_at jF0 ss tt _ _ y x hy hx
  have CM := Lib.hid (fun (lb cap : Nat) (W : World) (hB : Bools W lb 0 (mixJ jF0 (pixL ss (row0 ss).size ((row0 ss).size * ss.length)) (pixL tt (row0 ss).size ((row0 ss).size * ss.length)) ((row0 ss).size * ss.length))) => l01Make_any lb 0 cap (row0 ss).size ss.length _ W ⟨hw1, hw16⟩ ⟨hn1, hn16⟩ (by rw [mixJ_len, pixL_len]) hB)
  rw [hmk] at CM
  unfold Listed at CL CL2
  rw [← hw, ← hh] at CL2
  have hNle : (row0 ss).size * ss.length ≤ 256 := Nat.mul_le_mul hw16 hn16
  have hll := pixL_len ss (row0 ss).size ((row0 ss).size * ss.length)
  have hlm := pixL_len tt (row0 ss).size ((row0 ss).size * ss.length)
  obtain ⟨pic, hpic⟩ : ∃ x, mkPic (row0 ss).size ss.length (joF jF0 ss tt) = x := ⟨_, rfl⟩
  rw [hpic] at CM ⊢
  obtain ⟨N, hNN⟩ : ∃ k, (row0 ss).size * ss.length = k := ⟨_, rfl⟩
  rw [hNN] at CM CL CL2 hNle hll hlm
  obtain ⟨l, hl⟩ : ∃ l, pixL ss (row0 ss).size N = l := ⟨_, rfl⟩
  rw [hl] at CM CL hll
  obtain ⟨m, hm⟩ : ∃ l, pixL tt (row0 ss).size N = l := ⟨_, rfl⟩
  rw [hm] at CM CL2 hlm
  have HPA := Lib.hid hpa
  have HQA := Lib.hid hqa
  have HLL := Lib.hid hll
  have HLM := Lib.hid hlm
  have HCL := Lib.hid CL
  have HCL2 := Lib.hid CL2
  clear hcc hst V hmk hpic hNN hl hm hpa hqa hll hlm CL CL2 hw hh
  go_enter Tryd.func64, Tryd.ntmps64
  go_wp2_with fail
  refine (HCL.out _ (HPA.out.below (Joins.below_alloc1 w _))).mono ?_
  rintro e w1 ⟨g, cap, rfl, hown, hb1⟩
  have hg : w.heap.size + 1 ≤ g := by have := (hown.lt g rfl).1; simpa using this
  have hgs : ∀ j, (Value.slice (some ⟨g, 0, none⟩) N cap).ownBlock = some j → j < w1.heap.size := fun j hj => (hown.lt j hj).2
  have B1 : Hid (Below (w.heap.size + 1) (w.alloc (.cells #[.slice none 0 0] 28)) w1) := by
    show Below _ _ _
    have := hb1; simpa using this
  have O1 : Hid (w1.ownsRow (w.heap.size + 1) 4 1 (.slice (some ⟨g, 0, none⟩) N cap) N (boolV l)) := by
    show World.ownsRow _ _ _ _ _ _ _
    simpa using hown
  have D1 : Hid (Below w.heap.size w w1) := (Joins.below_alloc1 w (.cells #[.slice none 0 0] 28)).trans (B1.out.mono (by simp))
  have HGS := Lib.hid hgs
  clear hb1 hown hgs
  go_wp2_with fail
  refine (HCL2.out _ (HQA.out.below D1.out)).mono ?_
  rintro e w2 ⟨g2, cap2, rfl, hown2, hb2⟩
  have hg2 : w1.heap.size ≤ g2 := (hown2.lt g2 rfl).1
  have hgl : g < w1.heap.size := HGS.out g rfl
  have hs1 := B1.out.size
  have O2 : Hid (w2.ownsRow (w.heap.size + 1) 4 1 (.slice (some ⟨g, 0, none⟩) N cap) N (boolV (mixJ jF0 l m 0))) := by
    show World.ownsRow _ _ _ _ _ _ _
    rw [mixJ_zero]; exact own_below O1.out hb2
  have Y2 := Lib.hid (own_bools hown2 HLM.out)
  have B2 : Hid (Below (w.heap.size + 1) (w.alloc (.cells #[.slice none 0 0] 28)) w2) := B1.out.trans (hb2.mono (by simpa using hs1))
  clear hb2 hown2 B1 O1 D1
  go_wp2
  go_loopw [16] (fun iv wr => ∃ i : Nat, i ≤ N ∧ iv = .int .i64 i ∧ wr.ownsRow (w.heap.size + 1) 4 1 (.slice (some ⟨g, 0, none⟩) N cap) N (boolV (mixJ jF0 l m i)) ∧ Bools wr g2 0 m ∧ Below (w.heap.size + 1) (w.alloc (.cells #[.slice none 0 0] 28)) wr) (fun iv _ => N - (intOf iv).toNat)
  case atStart => exact ⟨0, Nat.zero_le _, rfl, O2.out, Y2.out, B2.out⟩
  case round =>
    clear O2 Y2 B2
    obtain ⟨i, hi, rfl, hown, hyb, hbel⟩ := hrel
    by_cases hlt : i < N
    · have kiN : (i : Int) < (N : Int) := by omega
      have hfz := hown.frozenAt i
      have hold := hown.cellAt i (by omega)
      have hil : i < l.length := by rw [HLL.out]; exact hlt
      rw [show (boolV (mixJ jF0 l m i))[i]? = some (.bool (l.getD i false)) from by unfold boolV; rw [List.getElem?_map, mixJ_at jF0 l m i i hil, if_neg (by omega)]; rfl] at hold
      have hyc := hyb.2 i (by rw [HLM.out]; exact hlt)
      rw [Nat.zero_add] at hyc
      have hst := (hown.stored i (.bool (jF0 (l.getD i false) (m.getD i false)))).1
      rw [boolV_set, mixJ_set jF0 l m i hil] at hst
      have HS := Lib.hid hst
      have HB := Lib.hid hbel
      have HYB := Lib.hid hyb
      have HY3 : Hid (∀ u, Bools (wr.setCell ⟨g, i, none⟩ u) g2 0 m) := fun u => ⟨by simp [World.setCell]; exact hyb.1, fun j hj => by
        rw [World.cell?_of_block (w := wr) (Below.heap_setCell _ _ _ _ (by show g2 ≠ g; omega))]; exact hyb.2 j hj⟩
      obtain ⟨p, hp⟩ : ∃ t, l.getD i false = t := ⟨_, rfl⟩
      obtain ⟨q, hq⟩ : ∃ t, m.getD i false = t := ⟨_, rfl⟩
      rw [hp] at hold HS
      rw [hq] at hyc HS
      clear hst hown hbel hp hq hil hyb
      cases p <;> cases q
      all_goals
        go_wp2
        go_roundw
        case rel => exact ⟨i + 1, by omega, by go_num, HS.out, HY3.out _, HB.out.setCell (by simpa using hg) _⟩
        case measure => simp [intOf]; omega
    · obtain rfl : i = N := by omega
      have HB : Hid (Bools wr g 0 (mixJ jF0 l m i)) := own_bools hown (by rw [mixJ_len, HLL.out])
      have P1 := Lib.hid ((hbel.block w.heap.size (by simp)).trans hP0.out)
      have B2 : Hid (Below w.heap.size w wr) := (Joins.below_alloc1 w (.cells #[.slice none 0 0] 28)).trans (hbel.mono (by simp))
      have A2 := Lib.hid (HPA.out.below B2.out)
      clear hown hbel hyb
      go_wp2_with fail
      refine (CW.out _ A2.out).mono ?_
      rintro e w' ⟨rfl, rfl⟩
      go_wp2_with fail
      refine (CM.out _ _ _ HB.out).mono ?_
      rintro e w4 ⟨g4, cap4, rfl, hown4, hb4⟩
      have hp2 := (hb4.block w.heap.size (Array.getElem?_eq_some_iff.1 P1.out).1).trans P1.out
      have hfr : w4.frozen? ⟨w.heap.size, 0, none⟩ = false := free_of_one hp2
      have hc2 : w4.cell? ⟨w.heap.size, 0, none⟩ = some (.slice none 0 0) := cell_of_one hp2
      have O2 := Lib.hid (own_set (u := .slice (some ⟨g4, 0, none⟩) pic.length cap4) hown4 hp2 (by decide))
      have P4 := Lib.hid hp2
      have B4 := Lib.hid (B2.out.trans (hb4.mono B2.out.size))
      have hs3 := B2.out.size
      clear hown4 hp2 hb4
      go_wp2_with fail
      refine bodyPost_ret (v := .agg #[.slice (some ⟨g4, 0, none⟩) pic.length cap4]) (by simp [results, Tryd.results64, go_sem, cell_of_one (one_setCell P4.out)]) rfl ⟨g4, cap4, rfl, Joins.ownsRow_le O2.out hs3, B4.out.setCell (by simp) _⟩

set_option maxHeartbeats 2000000 in
set_option maxRecDepth 100000 in
theorem l01Join_1 (pb qb : Nat) (ss tt : List ByteArray) (w : World) (hpa : PicAt w pb 0 ss) (hqa : PicAt w qb 0 tt) (hw : (row0 ss).size = (row0 tt).size) (hh : ss.length = tt.length) :
    Calls Tryd.prog 64 #[.int .i64 1, .pointer (some ⟨pb, 0, none⟩), .pointer (some ⟨qb, 0, none⟩)] w (TookPic w (mkPic (row0 ss).size ss.length (joF jF1 ss tt))) := by
  obtain ⟨b0, off0, cap0, hcc, hst, V⟩ := hpa.open'
  have hw1 := V.w1
  have hw16 := V.w16
  have hn1 := V.n1
  have hn16 := V.n16
  have hP0 : Hid ((w.alloc (.cells #[.slice none 0 0] 28)).heap[w.heap.size]? = some (.cells #[.slice none 0 0] 28 (0, 0))) := heap_alloc_last w _
  have CL : ∀ W, PicAt W pb 0 ss → Calls Tryd.prog 91 #[.pointer (some ⟨pb, 0, none⟩)] W (Listed ss W) := fun W h => l01List_any _ _ ss W h
  have CL2 : ∀ W, PicAt W qb 0 tt → Calls Tryd.prog 91 #[.pointer (some ⟨qb, 0, none⟩)] W (Listed tt W) := fun W h => l01List_any _ _ tt W h
  have CW : Hid (∀ W, PicAt W pb 0 ss → Calls Tryd.prog 69 #[.pointer (some ⟨pb, 0, none⟩)] W fun e w' => e = .returned (.int .i64 (row0 ss).size) ∧ W = w') := fun W h => l01Width_any _ _ ss W h
  have hmk : mkPic (row0 ss).size ss.length (fun y x => (mixJ jF1 (pixL ss (row0 ss).size ((row0 ss).size * ss.length)) (pixL tt (row0 ss).size ((row0 ss).size * ss.length)) ((row0 ss).size * ss.length)).getD (y * (row0 ss).size + x) false) = mkPic (row0 ss).size ss.length (joF jF1 ss tt) :=
    mkPic_congr fun y hy x hx => jo_at jF1 ss tt _ _ y x hy hx
  have CM := Lib.hid (fun (lb cap : Nat) (W : World) (hB : Bools W lb 0 (mixJ jF1 (pixL ss (row0 ss).size ((row0 ss).size * ss.length)) (pixL tt (row0 ss).size ((row0 ss).size * ss.length)) ((row0 ss).size * ss.length))) => l01Make_any lb 0 cap (row0 ss).size ss.length _ W ⟨hw1, hw16⟩ ⟨hn1, hn16⟩ (by rw [mixJ_len, pixL_len]) hB)
  rw [hmk] at CM
  unfold Listed at CL CL2
  rw [← hw, ← hh] at CL2
  have hNle : (row0 ss).size * ss.length ≤ 256 := Nat.mul_le_mul hw16 hn16
  have hll := pixL_len ss (row0 ss).size ((row0 ss).size * ss.length)
  have hlm := pixL_len tt (row0 ss).size ((row0 ss).size * ss.length)
  obtain ⟨pic, hpic⟩ : ∃ x, mkPic (row0 ss).size ss.length (joF jF1 ss tt) = x := ⟨_, rfl⟩
  rw [hpic] at CM ⊢
  obtain ⟨N, hNN⟩ : ∃ k, (row0 ss).size * ss.length = k := ⟨_, rfl⟩
  rw [hNN] at CM CL CL2 hNle hll hlm
  obtain ⟨l, hl⟩ : ∃ l, pixL ss (row0 ss).size N = l := ⟨_, rfl⟩
  rw [hl] at CM CL hll
  obtain ⟨m, hm⟩ : ∃ l, pixL tt (row0 ss).size N = l := ⟨_, rfl⟩
  rw [hm] at CM CL2 hlm
  have HPA := Lib.hid hpa
  have HQA := Lib.hid hqa
  have HLL := Lib.hid hll
  have HLM := Lib.hid hlm
  have HCL := Lib.hid CL
  have HCL2 := Lib.hid CL2
  clear hcc hst V hmk hpic hNN hl hm hpa hqa hll hlm CL CL2 hw hh
  go_enter Tryd.func64, Tryd.ntmps64
  go_wp2_with fail
  refine (HCL.out _ (HPA.out.below (Joins.below_alloc1 w _))).mono ?_
  rintro e w1 ⟨g, cap, rfl, hown, hb1⟩
  have hg : w.heap.size + 1 ≤ g := by have := (hown.lt g rfl).1; simpa using this
  have hgs : ∀ j, (Value.slice (some ⟨g, 0, none⟩) N cap).ownBlock = some j → j < w1.heap.size := fun j hj => (hown.lt j hj).2
  have B1 : Hid (Below (w.heap.size + 1) (w.alloc (.cells #[.slice none 0 0] 28)) w1) := by
    show Below _ _ _
    have := hb1; simpa using this
  have O1 : Hid (w1.ownsRow (w.heap.size + 1) 4 1 (.slice (some ⟨g, 0, none⟩) N cap) N (boolV l)) := by
    show World.ownsRow _ _ _ _ _ _ _
    simpa using hown
  have D1 : Hid (Below w.heap.size w w1) := (Joins.below_alloc1 w (.cells #[.slice none 0 0] 28)).trans (B1.out.mono (by simp))
  have HGS := Lib.hid hgs
  clear hb1 hown hgs
  go_wp2_with fail
  refine (HCL2.out _ (HQA.out.below D1.out)).mono ?_
  rintro e w2 ⟨g2, cap2, rfl, hown2, hb2⟩
  have hg2 : w1.heap.size ≤ g2 := (hown2.lt g2 rfl).1
  have hgl : g < w1.heap.size := HGS.out g rfl
  have hs1 := B1.out.size
  have O2 : Hid (w2.ownsRow (w.heap.size + 1) 4 1 (.slice (some ⟨g, 0, none⟩) N cap) N (boolV (mixJ jF1 l m 0))) := by
    show World.ownsRow _ _ _ _ _ _ _
    rw [mixJ_zero]; exact own_below O1.out hb2
  have Y2 := Lib.hid (own_bools hown2 HLM.out)
  have B2 : Hid (Below (w.heap.size + 1) (w.alloc (.cells #[.slice none 0 0] 28)) w2) := B1.out.trans (hb2.mono (by simpa using hs1))
  clear hb2 hown2 B1 O1 D1
  go_wp2
  go_loopw [16] (fun iv wr => ∃ i : Nat, i ≤ N ∧ iv = .int .i64 i ∧ wr.ownsRow (w.heap.size + 1) 4 1 (.slice (some ⟨g, 0, none⟩) N cap) N (boolV (mixJ jF1 l m i)) ∧ Bools wr g2 0 m ∧ Below (w.heap.size + 1) (w.alloc (.cells #[.slice none 0 0] 28)) wr) (fun iv _ => N - (intOf iv).toNat)
  case atStart => exact ⟨0, Nat.zero_le _, rfl, O2.out, Y2.out, B2.out⟩
  case round =>
    clear O2 Y2 B2
    obtain ⟨i, hi, rfl, hown, hyb, hbel⟩ := hrel
    by_cases hlt : i < N
    · have kiN : (i : Int) < (N : Int) := by omega
      have hfz := hown.frozenAt i
      have hold := hown.cellAt i (by omega)
      have hil : i < l.length := by rw [HLL.out]; exact hlt
      rw [show (boolV (mixJ jF1 l m i))[i]? = some (.bool (l.getD i false)) from by unfold boolV; rw [List.getElem?_map, mixJ_at jF1 l m i i hil, if_neg (by omega)]; rfl] at hold
      have hyc := hyb.2 i (by rw [HLM.out]; exact hlt)
      rw [Nat.zero_add] at hyc
      have hst := (hown.stored i (.bool (jF1 (l.getD i false) (m.getD i false)))).1
      rw [boolV_set, mixJ_set jF1 l m i hil] at hst
      have HS := Lib.hid hst
      have HB := Lib.hid hbel
      have HYB := Lib.hid hyb
      have HY3 : Hid (∀ u, Bools (wr.setCell ⟨g, i, none⟩ u) g2 0 m) := fun u => ⟨by simp [World.setCell]; exact hyb.1, fun j hj => by
        rw [World.cell?_of_block (w := wr) (Below.heap_setCell _ _ _ _ (by show g2 ≠ g; omega))]; exact hyb.2 j hj⟩
      obtain ⟨p, hp⟩ : ∃ t, l.getD i false = t := ⟨_, rfl⟩
      obtain ⟨q, hq⟩ : ∃ t, m.getD i false = t := ⟨_, rfl⟩
      rw [hp] at hold HS
      rw [hq] at hyc HS
      clear hst hown hbel hp hq hil hyb
      cases p <;> cases q
      all_goals
        go_wp2
        go_roundw
        case rel => exact ⟨i + 1, by omega, by go_num, HS.out, HY3.out _, HB.out.setCell (by simpa using hg) _⟩
        case measure => simp [intOf]; omega
    · obtain rfl : i = N := by omega
      have HB : Hid (Bools wr g 0 (mixJ jF1 l m i)) := own_bools hown (by rw [mixJ_len, HLL.out])
      have P1 := Lib.hid ((hbel.block w.heap.size (by simp)).trans hP0.out)
      have B2 : Hid (Below w.heap.size w wr) := (Joins.below_alloc1 w (.cells #[.slice none 0 0] 28)).trans (hbel.mono (by simp))
      have A2 := Lib.hid (HPA.out.below B2.out)
      clear hown hbel hyb
      go_wp2_with fail
      refine (CW.out _ A2.out).mono ?_
      rintro e w' ⟨rfl, rfl⟩
      go_wp2_with fail
      refine (CM.out _ _ _ HB.out).mono ?_
      rintro e w4 ⟨g4, cap4, rfl, hown4, hb4⟩
      have hp2 := (hb4.block w.heap.size (Array.getElem?_eq_some_iff.1 P1.out).1).trans P1.out
      have hfr : w4.frozen? ⟨w.heap.size, 0, none⟩ = false := free_of_one hp2
      have hc2 : w4.cell? ⟨w.heap.size, 0, none⟩ = some (.slice none 0 0) := cell_of_one hp2
      have O2 := Lib.hid (own_set (u := .slice (some ⟨g4, 0, none⟩) pic.length cap4) hown4 hp2 (by decide))
      have P4 := Lib.hid hp2
      have B4 := Lib.hid (B2.out.trans (hb4.mono B2.out.size))
      have hs3 := B2.out.size
      clear hown4 hp2 hb4
      go_wp2_with fail
      refine bodyPost_ret (v := .agg #[.slice (some ⟨g4, 0, none⟩) pic.length cap4]) (by simp [results, Tryd.results64, go_sem, cell_of_one (one_setCell P4.out)]) rfl ⟨g4, cap4, rfl, Joins.ownsRow_le O2.out hs3, B4.out.setCell (by simp) _⟩
end Go.Proofs.YtfdefbfakdndiaaDoor
