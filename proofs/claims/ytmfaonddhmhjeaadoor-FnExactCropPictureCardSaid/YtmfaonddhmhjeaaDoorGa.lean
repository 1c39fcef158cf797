/- Contracts of single functions, and plain lemmas, on which the exact laws of this seat rest; each holds under the conditions that it states. -/
import Derived.Test.YtmfaonddhmhjeaaDoorTu
import Derived.Test.YtmfaonddhmhjeaaDoorMm
import Derived.Test.YtmfaonddhmhjeaaDoorBk
import Derived.Deep.RegionLaw
import Derived.OwnWalk
namespace Go.Proofs.YtmfaonddhmhjeaaDoor
set_option linter.unusedVariables false
set_option linter.unusedSimpArgs false
open Go.RowKit

/-! ### a part of a picture -/
/-- append to a row of the call's own, as one step of a region that draws its order -/
theorem step_append_own {P : Program} {ops : Array Oper} {o : Oper} {a : Act} {w : World} {K : Act → World → Prop} {Q : Exit → Act → World → Prop} {E : Prop}
    (hg : o.guard = none) (s x : Operand) (t : TypeId) (ho : o.op = .call { callee := .builtin .append, args := #[s, x], argTypes := #[t, t] })
    (base : Nat) (e : TypeId) (i : TypeInfo) (z : Value) (size bytes : Nat) (ht : P.underlying t = some (.slice e)) (hi : P.info? e = some i) (hz : i.zero = some z)
    (hsize : i.size = size) (hby : i.bytes = bytes) (hzs : z.cells.size = size) (hsz : 0 < size)
    (v : Value) (n : Nat) (xs : List Value) (hs : a.eval s = v) (hown : w.ownsRow base e size v n xs)
    (ad : Addr) (m c : Nat) (news : List Value) (hx : a.eval x = .slice (some ad) m c) (hl : news.length = m * size) (hnews : ∀ j u, news[j]? = some u → w.cell? (ad.add j) = some u) (h1 : ∀ u ∈ news, u.oneCell' = true)
    (h63 : n + m ≤ maxLen) (hbytes : (n + m) * bytes ≤ 140737488355328) (hbase : base ≤ w.heap.size)
    (h : ∀ v' w', w'.ownsRow base e size v' (n + m) (xs ++ news) → w.grownBy w' v.ownBlock → K (a.put o.dst v') w') :
    if Region.wanted o (yielded ops a.tmps) = true then Oper.wp P o a w K Q else E := by
  have hw : Region.wanted o (yielded ops a.tmps) = true := by simp [Region.wanted, hg]
  rw [if_pos hw]
  exact wp_append_own w s x t ho base e i z size bytes ht hi hz hsize hby hzs hsz v n xs hs hown ad m c news hx hl hnews h1 h63 hbytes hbase fun v' w' h2 h3 _ => h v' w' h2 h3

def cropRow (s : ByteArray) (x wd : Nat) : ByteArray := s.extract x (x + wd)
def cropRows (ss : List ByteArray) (x y wd n : Nat) : List ByteArray := (List.range n).map fun j => cropRow (ss.getD (y + j) ByteArray.empty) x wd
theorem cropRows_len (ss : List ByteArray) (x y wd n : Nat) : (cropRows ss x y wd n).length = n := by simp [cropRows]
theorem cropRows_snoc (ss : List ByteArray) (x y wd n : Nat) : cropRows ss x y wd (n + 1) = cropRows ss x y wd n ++ [cropRow (ss.getD (y + n) ByteArray.empty) x wd] := by simp [cropRows, List.range_succ]

set_option maxHeartbeats 4000000 in
set_option maxRecDepth 100000 in
theorem l01Crop_any (pb po : Nat) (ss : List ByteArray) (x y wd hh : Nat) (w : World) (hp : PicAt w pb po ss) (hx : x + wd ≤ (row0 ss).size) (hy : y + hh ≤ ss.length) :
    Calls Tryd.prog 49 #[.pointer (some ⟨pb, po, none⟩), .int .i64 x, .int .i64 y, .int .i64 wd, .int .i64 hh] w (TookPic w (cropRows ss x y wd hh)) := by
  obtain ⟨i0, hi, hz0, hz1, hz2⟩ := info_parts Tryd.info9
  obtain ⟨b, off, cap, hc, hst, V⟩ := hp.open'
  have hn16 := V.n16
  have hw16 := V.w16
  have HR0 : Hid (∀ j, j < ss.length → (ss.getD j ByteArray.empty).size = (row0 ss).size) := fun j hj => (V.rows j hj).1
  have hpb : pb < w.heap.size := blk_lt hc
  have hb := hst.1
  have HST := Lib.hid hst.2
  have HC := Lib.hid hc
  obtain ⟨R, hR⟩ : ∃ R : Nat → ByteArray, (fun j => ss.getD j ByteArray.empty) = R := ⟨_, rfl⟩
  obtain ⟨n, hn⟩ : ∃ n, ss.length = n := ⟨_, rfl⟩
  obtain ⟨W0, hW0⟩ : ∃ n, (row0 ss).size = n := ⟨_, rfl⟩
  have HS : Hid (∀ k, cropRows ss x y wd (k + 1) = cropRows ss x y wd k ++ [cropRow (ss.getD (y + k) ByteArray.empty) x wd]) := fun k => cropRows_snoc ss x y wd k
  have HL : Hid (∀ k, (cropRows ss x y wd k).length = k) := fun k => cropRows_len ss x y wd k
  obtain ⟨f, hf⟩ : ∃ f : Nat → List ByteArray, (fun k => cropRows ss x y wd k) = f := ⟨_, rfl⟩
  have hf' : ∀ k, cropRows ss x y wd k = f k := fun k => congrFun hf k
  have hf0 : f 0 = [] := by rw [← hf']; rfl
  obtain ⟨g, hg⟩ : ∃ g : Nat → ByteArray, (fun j => ss.getD j ByteArray.empty) = g := ⟨_, rfl⟩
  have hg' : ∀ j, ss.getD j ByteArray.empty = g j := fun j => congrFun hg j
  simp only [hf', hg'] at HS HL HST HR0
  rw [hf']
  rw [hn] at HST HR0 hn16 hy HC
  rw [hW0] at HR0 hw16 hx
  have HF0 := Lib.hid hf0
  clear hp hc hst V hR hn hW0 hf hf' hg hg' hf0
  go_enter Tryd.func49, Tryd.ntmps49
  go_wp2
  go_loopw [12] (fun kv wr => ∃ (j g c : Nat), j ≤ hh ∧ kv = .int .i64 ((y + j : Nat) : Int) ∧ wr.heap[w.heap.size + 1 + 1]? = some (.cells #[.slice (some ⟨g, 0, none⟩) j c] 26 (0, 0)) ∧ OwnP wr w.heap.size (.slice (some ⟨g, 0, none⟩) j c) (f j) ∧ wr.heap[w.heap.size]? = some (.cells #[.slice none 0 0] 26 (0, 0)) ∧ Below w.heap.size w wr) (fun kv _ => y + hh - (intOf kv).toNat)
  case atStart =>
    refine ⟨0, w.heap.size + 1, 0, Nat.zero_le _, by simp, ?_, ?_, ?_, Joins.below_alloc3 _ _ _ _⟩
    · have := heap_alloc_last ((w.alloc (.cells #[.slice none 0 0] 26)).alloc (.cells #[] 9)) (.cells #[.slice (some ⟨w.heap.size + 1, 0, none⟩) 0 0] 26)
      simp only [World.size_alloc] at this
      exact this
    · have := World.ownsRow_lit (base := w.heap.size) (e := 9) (size := 1) (w.alloc (.cells #[.slice none 0 0] 26)) #[] 0 (by simp) (by unfold maxLen; omega) rfl
      simp only [World.size_alloc] at this
      rw [HF0.out]
      exact this.alloc _
    · rw [Below.heap_alloc _ _ _ (by simp; omega), Below.heap_alloc _ _ _ (by simp)]
      exact heap_alloc_last _ _
  case round =>
    obtain ⟨j, q, c, hj, rfl, hP, hrows, hH, hbel⟩ := hrel
    have ky : ((y + j : Nat) : Int) = (y : Int) + (j : Int) := by omega
    by_cases hlt : j < hh
    · have hcr := (hbel.cell (p := ⟨b, off + (y + j), none⟩) hb).trans (HST.out (y + j) (by omega))
      have hcp := (hbel.cell (p := ⟨pb, po, none⟩) hpb).trans HC.out
      have hrs := HR0.out (y + j) (by omega)
      have hsn := HS.out j
      obtain ⟨s, hs⟩ : ∃ s, g (y + j) = s := ⟨_, rfl⟩
      rw [hs] at hcr hrs hsn
      have hPc : wr.cell? ⟨w.heap.size + 1 + 1, 0, none⟩ = some (.slice (some ⟨q, 0, none⟩) j c) := Joins.cell_of_block hP 0
      have hrow' : wr.ownsRow w.heap.size 9 1 (.slice (some ⟨q, 0, none⟩) j c) j ((f j).map Value.string) := by
        have := hrows
        unfold OwnP at this
        rwa [HL.out j] at this
      have HR := Lib.hid hrow'
      have HP := Lib.hid hP
      have HH := Lib.hid hH
      have HB2 := Lib.hid hbel
      have HSN := Lib.hid hsn
      have hsz := hbel.size
      have k1 : IntKind.i64.wrap ((x : Int) + (wd : Int)) = (x : Int) + (wd : Int) := IntWalk.i64_in _ (by omega)
      have k2 : (0 : Int) ≤ (x : Int) + (wd : Int) := by omega
      have k3 : (x : Int) + (wd : Int) ≤ (s.size : Int) := by omega
      have k4 : (x : Int) ≤ (x : Int) + (wd : Int) := by omega
      have k5 : ((x : Int) + (wd : Int)).toNat = x + wd := by omega
      have l1 := (Array.getElem?_eq_some_iff.1 HP.out).1
      have l2 := (Array.getElem?_eq_some_iff.1 HH.out).1
      have HPd : Hid ((wr.alloc (.cells #[.string (cropRow s x wd)] 9)).drew.heap[w.heap.size + 1 + 1]? = some (.cells #[.slice (some ⟨q, 0, none⟩) j c] 26 (0, 0))) := (Below.heap_alloc _ _ _ l1).trans HP.out
      have HHd : Hid ((wr.alloc (.cells #[.string (cropRow s x wd)] 9)).drew.heap[w.heap.size]? = some (.cells #[.slice none 0 0] 26 (0, 0))) := (Below.heap_alloc _ _ _ l2).trans HH.out
      have HRd : Hid ((wr.alloc (.cells #[.string (cropRow s x wd)] 9)).drew.ownsRow w.heap.size 9 1 (.slice (some ⟨q, 0, none⟩) j c) j ((f j).map Value.string)) := World.ownsRow.drew (HR.out.alloc _)
      have HBd : Hid (Below w.heap.size w (wr.alloc (.cells #[.string (cropRow s x wd)] 9)).drew) := (HB2.out.alloc hsz _).drew
      obtain ⟨Y, hY⟩ : ∃ Y, y + j = Y := ⟨_, rfl⟩
      have k6 : (Y : Int) < (n : Int) := by omega
      have k7 : (Y : Int) < (y : Int) + (hh : Int) := by omega
      have HY := Lib.hid hY
      rw [hY] at hcr ⊢
      clear hP hrows hrow' hH hbel hsn hs hY ky hrs
      go_wp2
      go_region_law ((refine step_append_own rfl _ _ 24 rfl w.heap.size 9 i0 (.string ⟨#[]⟩) 1 16 Tryd.underlying24 hi hz0 hz1 hz2 rfl (by decide) _ _ _ rfl HRd.out ⟨wr.heap.size, 0, none⟩ 1 1 [.string (cropRow s x wd)] rfl rfl (cell_one_new _ _ _) (by intro u hu; simp at hu; subst hu; rfl) (by unfold maxLen; omega) (by omega) (by simp; omega) ?_; intro v' w1 hown' hgrow; have hP1 := var_far HPd.out HRd.out (by decide) hgrow; have hH1 := var_far HHd.out HRd.out (by decide) hgrow; have hbel1 : Below w.heap.size w w1 := HBd.out.grown hgrow (by simp; omega) (fun k hk => (HRd.out.lt k hk).1); have hP1c : w1.cell? ⟨w.heap.size + 1 + 1, 0, none⟩ = some (.slice (some ⟨q, 0, none⟩) j c) := Joins.cell_of_block hP1 0; have hfr : w1.frozen? ⟨w.heap.size + 1 + 1, 0, none⟩ = false := free_of_one hP1; obtain ⟨g', c', rfl⟩ := Joins.ownsRow_form hown' (by omega)))
      all_goals go_wp2
      all_goals
        have hne := own_ne hown' hP1 (by decide)
        have hR2 : OwnP (w1.setCell ⟨w.heap.size + 1 + 1, 0, none⟩ (.slice (some ⟨g', 0, none⟩) (j + 1) c')) w.heap.size (.slice (some ⟨g', 0, none⟩) (j + 1) c') (f (j + 1)) := by
          have := ownsRow_setCell_other hown' (a := ⟨w.heap.size + 1 + 1, 0, none⟩) hne (.slice (some ⟨g', 0, none⟩) (j + 1) c')
          unfold OwnP
          rw [HSN.out, List.length_append, HL.out, List.map_append]
          exact this
        exact ⟨⟨j + 1, g', c', hlt, by have := HY.out; go_num, one_setCell hP1, hR2, (Below.heap_setCell _ _ _ _ (by simp; omega)).trans hH1, hbel1.setCell (by simp; omega) _⟩, by have := HY.out; simp [intOf]; omega⟩
    · obtain rfl : j = hh := by omega
      have hPc : wr.cell? ⟨w.heap.size + 1 + 1, 0, none⟩ = some (.slice (some ⟨q, 0, none⟩) j c) := Joins.cell_of_block hP 0
      have hHc : wr.cell? ⟨w.heap.size, 0, none⟩ = some (.slice none 0 0) := Joins.cell_of_block hH 0
      have hfr : wr.frozen? ⟨w.heap.size, 0, none⟩ = false := free_of_one hH
      have HR := Lib.hid hrows
      have HP := Lib.hid hP
      have HH := Lib.hid hH
      have HB2 := Lib.hid hbel
      rw [ky]
      clear hrows hP hH hbel ky
      go_wp2
      refine bodyPost_ret (v := .agg #[.slice (some ⟨q, 0, none⟩) j c]) (by simp [results, Tryd.results49, go_sem, cell_of_one (one_setCell HH.out)]) rfl ⟨q, c, by rw [HL.out], ?_, HB2.out.setCell (by simp) _⟩
      rw [HL.out]
      exact Joins.ownsRow_le (ownsRow_setCell_other HR.out (a := ⟨w.heap.size, 0, none⟩) (own_ne HR.out HH.out (by decide)) _) (by omega)
end Go.Proofs.YtmfaonddhmhjeaaDoor
