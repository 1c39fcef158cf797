/- Contracts of single functions, and plain lemmas, on which the exact laws of this seat rest; each holds under the conditions that it states. -/
import Derived.Test.YtchcmbgbndccmaaDoorLs
import Derived.Test.YtchcmbgbndccmaaDoorPx
namespace Go.Proofs.YtchcmbgbndccmaaDoor
set_option linter.unusedVariables false
open Go.RowKit

theorem mkPic_congr {wd h : Nat} {f g : Nat → Nat → Bool} (e : ∀ y, y < h → ∀ x, x < wd → f y x = g y x) : mkPic wd h f = mkPic wd h g := by
  unfold mkPic
  refine List.map_congr_left fun y hy => ?_
  rw [List.mem_range] at hy
  unfold rowOf mkRow
  rw [show (List.range wd).map (fun x => if f y x then (35 : UInt8) else 46) = (List.range wd).map (fun x => if g y x then 35 else 46) from List.map_congr_left fun x hx => by rw [e y hy x (List.mem_range.1 hx)]]

theorem own_bools {w : World} {base g n cap : Nat} {bs : List Bool} (h : w.ownsRow base 4 1 (.slice (some ⟨g, 0, none⟩) n cap) n (boolV bs)) (hn : bs.length = n) : Bools w g 0 bs := by
  refine ⟨(h.lt g rfl).2, fun i hi => ?_⟩
  have := h.cells (g := g) rfl i (.bool (bs.getD i false)) (by unfold boolV; rw [List.getElem?_map, List.getElem?_eq_getElem hi, List.getD_eq_getElem?_getD, List.getElem?_eq_getElem hi]; rfl)
  have e1 : (⟨g, 0, none⟩ : Addr).add i = ⟨g, 0 + i, none⟩ := by
    simp only [Addr.add, Nat.zero_add]
    split <;> simp_all
  rwa [e1] at this

theorem boolV_set (bs : List Bool) (k : Nat) (b : Bool) : (boolV bs).set k (.bool b) = boolV (bs.set k b) := by simp [boolV, List.map_set]

/-- a pixel changed -/
def setF (ss : List ByteArray) (q p : Nat) (bk : Bool) (y x : Nat) : Bool := if y = q ∧ x = p then bk else pixF ss y x
theorem setF_at (ss : List ByteArray) (wd h q p : Nat) (bk : Bool) (hq : q < h) (hp : p < wd) (y x : Nat) (hy : y < h) (hx : x < wd) :
    ((pixL ss wd (wd * h)).set (q * wd + p) bk).getD (y * wd + x) false = setF ss q p bk y x := by
  unfold setF
  have hat := pixL_at ss wd h y x hy hx
  have h3 : (q + 1) * wd ≤ h * wd := Nat.mul_le_mul_right _ hq
  rw [Nat.add_mul, Nat.one_mul, Nat.mul_comm h wd] at h3
  by_cases h : y = q ∧ x = p
  · obtain ⟨rfl, rfl⟩ := h
    rw [if_pos ⟨rfl, rfl⟩, List.getD_eq_getElem?_getD, List.getElem?_set_self (by rw [pixL_len]; omega)]
    rfl
  · rw [if_neg h, ← hat, List.getD_eq_getElem?_getD, List.getD_eq_getElem?_getD, List.getElem?_set_ne]
    intro e
    apply h
    have e1 : (q * wd + p) / wd = q := by rw [Nat.mul_comm, Nat.mul_add_div (by omega), Nat.div_eq_of_lt hp, Nat.add_zero]
    have e2 : (y * wd + x) / wd = y := by rw [Nat.mul_comm, Nat.mul_add_div (by omega), Nat.div_eq_of_lt hx, Nat.add_zero]
    have e3 : q = y := by rw [← e1, ← e2, e]
    subst e3
    exact ⟨rfl, by omega⟩

set_option maxHeartbeats 2000000 in
set_option maxRecDepth 100000 in
theorem spec_Set_yes (v : Value) (ss : List ByteArray) (p q : Nat) (bk : Bool) (w : World) (hN : ss.length ≤ maxLen) (hz : ∀ s ∈ ss, s.size ≤ maxLen) (hv : Sl w v ss) (hok : validB ss = true) (hp : p < (row0 ss).size) (hq : q < ss.length) :
    Calls Tryd.prog 26 #[.agg #[v], .int .i64 p, .int .i64 q, .bool bk] w (SaysPic (mkPic (row0 ss).size ss.length (setF ss q p bk)) true w) := by
  have V := vp_of hok
  have hb0 : Below w.heap.size w ((w.alloc (.cells #[v] 27)).alloc (.cells #[.slice none 0 0] 27)) := Joins.below_alloc2 w _ _
  have hl1 : ((w.alloc (.cells #[v] 27)).alloc (.cells #[.slice none 0 0] 27)).heap[w.heap.size]? = some (.cells #[v] 27 (0, 0)) := by
    rw [Below.heap_alloc _ _ _ (by simp)]; exact heap_alloc_last w _
  have hl2 : ((w.alloc (.cells #[v] 27)).alloc (.cells #[.slice none 0 0] 27)).heap[w.heap.size + 1]? = some (.cells #[.slice none 0 0] 27 (0, 0)) := by
    have := heap_alloc_last (w.alloc (.cells #[v] 27)) (.cells #[.slice none 0 0] 27)
    simp only [World.size_alloc] at this
    exact this
  have C := Lib.hid (l01Is_any w.heap.size 0 v ss _ (cell_of_one hl1) (hv.below hb0) hN hz)
  have hpa : ∀ W, Below ((w.alloc (.cells #[v] 27)).alloc (.cells #[.slice none 0 0] 27)).heap.size ((w.alloc (.cells #[v] 27)).alloc (.cells #[.slice none 0 0] 27)) W → PicAt W w.heap.size 0 ss := fun W hb =>
      ⟨hok, v, cell_kept hb (cell_of_one hl1), (hv.below hb0).below hb⟩
  have HP := Lib.hid hpa
  have L2 := Lib.hid hl2
  have hin : insB (row0 ss).size ss.length p q = true := by
    unfold insB inB
    simp only [Bool.and_eq_true, decide_eq_true_eq]
    omega
  have HIN := Lib.hid hin
  have HOk := Lib.hid hok
  have hmk : mkPic (row0 ss).size ss.length (fun y x => ((pixL ss (row0 ss).size ((row0 ss).size * ss.length)).set (q * (row0 ss).size + p) bk).getD (y * (row0 ss).size + x) false) = mkPic (row0 ss).size ss.length (setF ss q p bk) :=
    mkPic_congr fun y hy x hx => setF_at ss _ _ q p bk hq hp y x hy hx
  have hw1 := V.w1
  have hw16 := V.w16
  have hn1 := V.n1
  have hn16 := V.n16
  have hlt : q * (row0 ss).size + p < (row0 ss).size * ss.length := by
    have h3 : (q + 1) * (row0 ss).size ≤ ss.length * (row0 ss).size := Nat.mul_le_mul_right _ hq
    rw [Nat.add_mul, Nat.one_mul, Nat.mul_comm ss.length] at h3
    omega
  have CM := Lib.hid (fun (lb cap : Nat) (W : World) (hB : Bools W lb 0 ((pixL ss (row0 ss).size ((row0 ss).size * ss.length)).set (q * (row0 ss).size + p) bk)) => l01Make_any lb 0 cap (row0 ss).size ss.length _ W ⟨hw1, hw16⟩ ⟨hn1, hn16⟩ (by rw [List.length_set, pixL_len]) hB)
  rw [hmk] at CM
  have hNle : (row0 ss).size * ss.length ≤ 256 := Nat.mul_le_mul hw16 hn16
  have CW : Hid (∀ W, PicAt W w.heap.size 0 ss → Calls Tryd.prog 66 #[.pointer (some ⟨w.heap.size, 0, none⟩)] W fun e w' => e = .returned (.int .i64 (row0 ss).size) ∧ W = w') := fun W h => l01Width_any _ _ ss W h
  have CL : Hid (∀ W, PicAt W w.heap.size 0 ss → Calls Tryd.prog 65 #[.pointer (some ⟨w.heap.size, 0, none⟩)] W (Listed ss W)) := fun W h => l01List_any _ _ ss W h
  unfold Listed at CL
  obtain ⟨pic, hpic⟩ : ∃ x, mkPic (row0 ss).size ss.length (setF ss q p bk) = x := ⟨_, rfl⟩
  rw [hpic] at CM ⊢
  obtain ⟨N, hNN⟩ : ∃ k, (row0 ss).size * ss.length = k := ⟨_, rfl⟩
  rw [hNN] at CM CL hlt hNle
  obtain ⟨wd, hwd⟩ : ∃ k, (row0 ss).size = k := ⟨_, rfl⟩
  rw [hwd] at CM CL CW hlt hw16 hw1 HIN hp
  have hc : (q : Int) * (wd : Int) = ((q * wd : Nat) : Int) := by push_cast; rfl
  obtain ⟨Q, hQ⟩ : ∃ k, q * wd = k := ⟨_, rfl⟩
  rw [hQ] at CM hlt hc
  have hQi : (Q : Int) + (p : Int) < (N : Int) := by omega
  have CHs : Hid (∀ W, PicAt W w.heap.size 0 ss → Calls Tryd.prog 61 #[.pointer (some ⟨w.heap.size, 0, none⟩), .int .i64 p, .int .i64 q] W fun e w' => e = .returned (.bool true) ∧ W = w') := fun W h => by
    have := l01Has_any w.heap.size 0 ss p q W h
    rwa [hwd, HIN.out] at this
  clear hb0 hl1 hl2 hpa hin hok hmk V hv hpic hNN hwd hQ HIN
  go_enter Tryd.func26, Tryd.ntmps26
  go_wp2_with fail
  refine C.out.mono ?_
  rintro e w1 ⟨rfl, hb1⟩
  rw [HOk.out]
  have A1 := Lib.hid (HP.out _ hb1)
  have B1 : Hid (Below w.heap.size w w1) := (Joins.below_alloc2 w _ _).trans (hb1.mono (by simp; omega))
  have hp1 := (hb1.block (w.heap.size + 1) (by simp)).trans L2.out
  have P1 := Lib.hid hp1
  clear hb1 hp1
  go_wp2_with fail
  refine (CHs.out _ A1.out).mono ?_
  rintro e w' ⟨rfl, rfl⟩
  go_wp2_with fail
  refine (CL.out _ A1.out).mono ?_
  rintro e w2 ⟨g, cap, rfl, hown, hb2⟩
  have hg : w1.heap.size ≤ g := (hown.lt g rfl).1
  have hfz := hown.frozenAt (Q + p)
  have hold := hown.cellAt (Q + p) (by omega)
  have hlen : Q + p < (boolV (pixL ss wd N)).length := by unfold boolV; rw [List.length_map, pixL_len]; exact hlt
  rw [List.getElem?_eq_getElem hlen] at hold
  have hst := (hown.stored (Q + p) (.bool bk)).1
  rw [boolV_set] at hst
  have A2 := Lib.hid (A1.out.below hb2)
  have hb3 : Below w1.heap.size w1 (w2.setCell ⟨g, Q + p, none⟩ (.bool bk)) := hb2.setCell hg _
  have A3 := Lib.hid (A1.out.below hb3)
  have HS := Lib.hid (own_bools hst (by rw [List.length_set, pixL_len]))
  have B3 := Lib.hid (B1.out.trans (hb3.mono B1.out.size))
  have P3 := Lib.hid ((hb3.block (w.heap.size + 1) (Array.getElem?_eq_some_iff.1 P1.out).1).trans P1.out)
  obtain ⟨u, hu⟩ : ∃ u, (boolV (pixL ss wd N))[Q + p] = u := ⟨_, rfl⟩
  rw [hu] at hold
  clear hst hown hb2 hu hlen
  go_wp2_with fail
  refine (CW.out _ A2.out).mono ?_
  rintro e w' ⟨rfl, rfl⟩
  go_wp2_with fail
  refine (CW.out _ A3.out).mono ?_
  rintro e w' ⟨rfl, rfl⟩
  clear hfz hold hb3
  go_wp2_with fail
  refine (CM.out _ _ _ HS.out).mono ?_
  obtain ⟨W3, hW3⟩ : ∃ W3, w2.setCell ⟨g, Q + p, none⟩ (.bool bk) = W3 := ⟨_, rfl⟩
  rw [hW3] at B3 P3 ⊢
  rintro e w4 ⟨g4, cap4, rfl, hown4, hb4⟩
  have hp2 := (hb4.block (w.heap.size + 1) (Array.getElem?_eq_some_iff.1 P3.out).1).trans P3.out
  have hfr : w4.frozen? ⟨w.heap.size + 1, 0, none⟩ = false := free_of_one hp2
  have hc2 : w4.cell? ⟨w.heap.size + 1, 0, none⟩ = some (.slice none 0 0) := cell_of_one hp2
  have O2 := Lib.hid (own_set (u := .slice (some ⟨g4, 0, none⟩) pic.length cap4) hown4 hp2 (by decide))
  have P2 := Lib.hid hp2
  have B2 := Lib.hid (B3.out.trans (hb4.mono B3.out.size))
  have hs3 := B3.out.size
  clear hown4 hp2 hb4 HS A3 A2
  go_wp2_with fail
  refine bodyPost_ret (v := .tuple #[.agg #[.slice (some ⟨g4, 0, none⟩) pic.length cap4], .bool true]) (by simp [results, Tryd.results26, go_sem, cell_of_one (one_setCell P2.out)]) rfl ⟨_, _, _, rfl, Joins.ownsRow_le O2.out hs3, B2.out.setCell (by simp) _⟩
set_option maxHeartbeats 2000000 in
set_option maxRecDepth 100000 in
theorem spec_Set_no (v : Value) (ss : List ByteArray) (x y : Int) (bk : Bool) (w : World) (hN : ss.length ≤ maxLen) (hz : ∀ s ∈ ss, s.size ≤ maxLen) (hv : Sl w v ss) (hno : pixOk ss x y = false) :
    Calls Tryd.prog 26 #[.agg #[v], .int .i64 x, .int .i64 y, .bool bk] w (SaysPic [] false w) := by
  have hb0 : Below w.heap.size w ((w.alloc (.cells #[v] 27)).alloc (.cells #[.slice none 0 0] 27)) := Joins.below_alloc2 w _ _
  have hl1 : ((w.alloc (.cells #[v] 27)).alloc (.cells #[.slice none 0 0] 27)).heap[w.heap.size]? = some (.cells #[v] 27 (0, 0)) := by
    rw [Below.heap_alloc _ _ _ (by simp)]; exact heap_alloc_last w _
  have hl2 : ((w.alloc (.cells #[v] 27)).alloc (.cells #[.slice none 0 0] 27)).heap[w.heap.size + 1]? = some (.cells #[.slice none 0 0] 27 (0, 0)) := by
    have := heap_alloc_last (w.alloc (.cells #[v] 27)) (.cells #[.slice none 0 0] 27)
    simp only [World.size_alloc] at this
    exact this
  have C := Lib.hid (l01Is_any w.heap.size 0 v ss _ (cell_of_one hl1) (hv.below hb0) hN hz)
  have L2 := Lib.hid hl2
  cases hok : validB ss with
  | false =>
    have HOk := Lib.hid hok
    clear hok hno hb0 hl1 hl2 hv
    go_enter Tryd.func26, Tryd.ntmps26
    go_wp2_with fail
    refine C.out.mono ?_
    rintro e w1 ⟨rfl, hb1⟩
    rw [HOk.out]
    have hp1 := (hb1.block (w.heap.size + 1) (by simp)).trans L2.out
    have hfr : w1.frozen? ⟨w.heap.size + 1, 0, none⟩ = false := free_of_one hp1
    have hc2 : w1.cell? ⟨w.heap.size + 1, 0, none⟩ = some (.slice none 0 0) := cell_of_one hp1
    have B1 : Hid (Below w.heap.size w w1) := (Joins.below_alloc2 w _ _).trans (hb1.mono (by simp; omega))
    have P1 := Lib.hid hp1
    clear hb1 hp1
    go_wp2_with fail
    refine bodyPost_ret (v := .tuple #[.agg #[.slice none 0 0], .bool false]) (by simp [results, Tryd.results26, go_sem, cell_of_one (one_setCell P1.out)]) rfl ⟨_, _, _, rfl, World.ownsRow_nil _ _ _ _, B1.out.setCell (by simp) _⟩
  | true =>
    have hin : insB (row0 ss).size ss.length x y = false := by unfold pixOk at hno; rw [hok] at hno; simpa using hno
    have CHs : Hid (∀ W, PicAt W w.heap.size 0 ss → Calls Tryd.prog 61 #[.pointer (some ⟨w.heap.size, 0, none⟩), .int .i64 x, .int .i64 y] W fun e w' => e = .returned (.bool false) ∧ W = w') := fun W h => by
      have := l01Has_any w.heap.size 0 ss x y W h
      rwa [hin] at this
    have hpa : ∀ W, Below ((w.alloc (.cells #[v] 27)).alloc (.cells #[.slice none 0 0] 27)).heap.size ((w.alloc (.cells #[v] 27)).alloc (.cells #[.slice none 0 0] 27)) W → PicAt W w.heap.size 0 ss := fun W hb =>
        ⟨hok, v, cell_kept hb (cell_of_one hl1), (hv.below hb0).below hb⟩
    have HP := Lib.hid hpa
    have HOk := Lib.hid hok
    clear hok hno hb0 hl1 hl2 hv hin hpa
    go_enter Tryd.func26, Tryd.ntmps26
    go_wp2_with fail
    refine C.out.mono ?_
    rintro e w1 ⟨rfl, hb1⟩
    rw [HOk.out]
    have A1 := Lib.hid (HP.out _ hb1)
    have hp1 := (hb1.block (w.heap.size + 1) (by simp)).trans L2.out
    have hfr : w1.frozen? ⟨w.heap.size + 1, 0, none⟩ = false := free_of_one hp1
    have hc2 : w1.cell? ⟨w.heap.size + 1, 0, none⟩ = some (.slice none 0 0) := cell_of_one hp1
    have B1 : Hid (Below w.heap.size w w1) := (Joins.below_alloc2 w _ _).trans (hb1.mono (by simp; omega))
    have P1 := Lib.hid hp1
    clear hb1 hp1
    go_wp2_with fail
    refine (CHs.out _ A1.out).mono ?_
    rintro e w' ⟨rfl, rfl⟩
    go_wp2_with fail
    refine bodyPost_ret (v := .tuple #[.agg #[.slice none 0 0], .bool false]) (by simp [results, Tryd.results26, go_sem, cell_of_one (one_setCell P1.out)]) rfl ⟨_, _, _, rfl, World.ownsRow_nil _ _ _ _, B1.out.setCell (by simp) _⟩
end Go.Proofs.YtchcmbgbndccmaaDoor
