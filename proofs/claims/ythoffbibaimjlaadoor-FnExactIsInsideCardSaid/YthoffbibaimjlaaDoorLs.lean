/- Contracts of single functions, and plain lemmas, on which the exact laws of this seat rest; each holds under the conditions that it states. -/
import Derived.Test.YthoffbibaimjlaaDoorLt
namespace Go.Proofs.YthoffbibaimjlaaDoor
set_option linter.unusedVariables false
open Go.RowKit

set_option maxHeartbeats 4000000 in
set_option maxRecDepth 100000 in
theorem l01List_any (pb po : Nat) (ss : List ByteArray) (w : World) (hp : PicAt w pb po ss) :
    Calls Tryd.prog 31 #[.pointer (some ⟨pb, po, none⟩)] w (Listed ss w) := by
  obtain ⟨i0, hi, hz0, hz1, hz2⟩ := info_parts Tryd.info4
  obtain ⟨b, off, cap, hc, hst, V⟩ := hp.open'
  have hn := V.n16
  have hw := V.w16
  have hn1 := V.n1
  have hw1 := V.w1
  have hrows : ∀ y, y < ss.length → (ss.getD y ByteArray.empty).size = (row0 ss).size := fun y hy => (V.rows y hy).1
  have hlc : pb < w.heap.size := blk_lt hc
  have hlb := hst.1
  have HC := Lib.hid hc
  have HS := Lib.hid hst.2
  have HR := Lib.hid hrows
  obtain ⟨wd, hwd⟩ : ∃ k, (row0 ss).size = k := ⟨_, rfl⟩
  obtain ⟨n, hnn⟩ : ∃ k, ss.length = k := ⟨_, rfl⟩
  unfold Listed
  rw [hwd] at hw hw1 HR ⊢
  rw [hnn] at hn hn1 HC HS HR ⊢
  clear hp hc hst V hrows hwd hnn
  go_enter Tryd.func31, Tryd.ntmps31
  go_wp2
  go_loopw [3, 4] (fun v yv wr => ∃ y : Nat, y ≤ n ∧ yv = .int .i64 y ∧ wr.ownsRow w.heap.size 4 1 v (y * wd) (boolV (pixL ss wd (y * wd))) ∧ Below w.heap.size w wr) (fun _ yv _ => n - (intOf yv).toNat)
  case atStart =>
    refine ⟨0, Nat.zero_le _, rfl, ?_, Joins.below_alloc1 _ _⟩
    rw [Nat.zero_mul]
    exact World.ownsRow_lit (base := w.heap.size) (e := 4) (size := 1) w #[] 0 (Nat.le_refl _) (by unfold maxLen; omega) rfl
  case round =>
    obtain ⟨y, hy, rfl, hown, hbel⟩ := hrel
    have hcw := (hbel.cell (p := ⟨pb, po, none⟩) hlc).trans HC.out
    by_cases hlt : y < n
    · have kyn : (y : Int) < (n : Int) := by omega
      have HO := Lib.hid hown
      have HB := Lib.hid hbel
      clear hown hbel
      go_wp2
      go_loopw [3, 5] (fun v xv wr => ∃ x : Nat, x ≤ wd ∧ xv = .int .i64 x ∧ wr.ownsRow w.heap.size 4 1 v (y * wd + x) (boolV (pixL ss wd (y * wd + x))) ∧ Below w.heap.size w wr) (fun _ xv _ => wd - (intOf xv).toNat)
      case atStart => exact ⟨0, Nat.zero_le _, rfl, HO.out, HB.out⟩
      case round =>
        obtain ⟨x, hx, rfl, hown, hbel⟩ := hrel
        clear hcw HO HB
        have hcw := (hbel.cell (p := ⟨pb, po, none⟩) hlc).trans HC.out
        have hsw := (hbel.cell (p := ⟨b, off + y, none⟩) hlb).trans (HS.out y hlt)
        have hsz := HR.out y hlt
        have hpf : pixF ss y x = blackAt (ss.getD y ByteArray.empty) x := rfl
        obtain ⟨s, hs⟩ : ∃ s, ss.getD y ByteArray.empty = s := ⟨_, rfl⟩
        rw [hs] at hsw hsz hpf
        by_cases hlt2 : x < wd
        · have hxs : x < s.size := by omega
          have hb35 := black35 s x hxs
          have hsn := pixL_snoc ss wd y x hlt2
          rw [hpf] at hsn
          obtain ⟨bt, hbt⟩ : ∃ t, blackAt s x = t := ⟨_, rfl⟩
          rw [hbt] at hb35 hsn
          have kxs : (x : Int) < (s.size : Int) := by omega
          have ks : (s.size : Int) ≤ 16 := by omega
          have hNle : y * wd ≤ 256 := Nat.le_trans (Nat.mul_le_mul hy (Nat.le_refl _)) (Nat.mul_le_mul hn hw)
          have hs1 := hbel.size
          have HO := Lib.hid hown
          have HB := Lib.hid hbel
          have HSN := Lib.hid hsn
          obtain ⟨M, hM⟩ : ∃ M, y * wd + x = M := ⟨_, rfl⟩
          have HM := Lib.hid hM
          rw [hM] at HO HSN
          have hM2 : M ≤ 300 := by omega
          clear hown hbel hsn hM hs hpf hbt hsz
          go_wp2_with (at_builtin; refine wpList_append_own _ rfl _ _ 58 rfl w.heap.size 4 i0 (.bool false) 1 1 Tryd.underlying58 hi hz0 hz1 hz2 rfl (by decide) _ _ _ rfl (HO.out.alloc _) ⟨wr.heap.size, 0, none⟩ 1 1 [.bool bt] rfl rfl (cell_one_new _ _ _) (by intro u hu; simp at hu; subst hu; rfl) (by unfold maxLen; omega) (by omega) (by simp; omega) ?_)
          intro v' w2 hown' hgr _
          have o1 := HO.out.alloc (.cells #[.bool bt] 4)
          have B2 : Hid (Below w.heap.size w w2) := (HB.out.alloc hs1 _).grown hgr (by simp; omega) (fun k hk => (o1.lt k hk).1)
          have O2 : Hid (w2.ownsRow w.heap.size 4 1 v' (y * wd + (x + 1)) (boolV (pixL ss wd (y * wd + (x + 1))))) := by
            show World.ownsRow _ _ _ _ _ _ _
            rw [show y * wd + (x + 1) = M + 1 from by rw [← HM.out]; omega, HSN.out]
            exact hown'
          clear hown' hgr o1
          go_wp2
          go_roundw
          case rel => exact ⟨x + 1, by omega, by go_num, O2.out, B2.out⟩
          case measure => simp [intOf]; omega
        · obtain rfl : x = wd := by omega
          have kxs : (x : Int) = (s.size : Int) := by omega
          have knx : ¬ (x : Int) < (s.size : Int) := by omega
          have e1 : y * x + x = (y + 1) * x := by rw [Nat.add_mul, Nat.one_mul]
          rw [e1] at hown
          have HO := Lib.hid hown
          have HB := Lib.hid hbel
          have ks : (s.size : Int) ≤ 16 := by omega
          clear hown hbel hs hpf hsz kxs e1
          go_wp2
          go_roundw
          case rel => exact ⟨y + 1, hlt, by go_num, HO.out, HB.out⟩
          case measure => simp [intOf]; omega
    · obtain rfl : y = n := by omega
      rw [Nat.mul_comm y wd] at hown
      have h1 : 1 * 1 ≤ wd * y := Nat.mul_le_mul hw1 hn1
      obtain ⟨g, cap2, rfl⟩ := Joins.ownsRow_form hown (by omega)
      have HO := Lib.hid hown
      have HB := Lib.hid hbel
      clear hown hbel h1
      go_wp2
      go_ret
      exact ⟨g, cap2, rfl, HO.out, HB.out⟩
end Go.Proofs.YthoffbibaimjlaaDoor
