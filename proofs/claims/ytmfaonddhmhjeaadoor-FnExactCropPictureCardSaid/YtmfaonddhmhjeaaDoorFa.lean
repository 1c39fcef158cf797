/- Contracts of single functions, and plain lemmas, on which the exact laws of this seat rest; each holds under the conditions that it states. -/
import Derived.Test.YtmfaonddhmhjeaaDoorQb
import Derived.Test.YtmfaonddhmhjeaaDoorLf
import Derived.RegionTactic
import Derived.ChangeAlike
import Derived.BigRegion
namespace Go.Proofs.YtmfaonddhmhjeaaDoor
set_option linter.unusedVariables false
set_option linter.unusedSimpArgs false
open Go.RowKit

/-! ### a picture with some black pixels -/
/-- one of the spots is the pixel -/
def anyS (xs : List (Int × Int)) (y x : Nat) : Bool := xs.any fun p => decide (p.1 = (x : Int)) && decide (p.2 = (y : Int))
theorem anyS_zero (xs : List (Int × Int)) : anyS (xs.take 0) = fun _ _ => false := by
  funext y x; simp [anyS]
theorem anyS_take (xs : List (Int × Int)) (k : Nat) (hk : k < xs.length) (y x : Nat) : anyS (xs.take (k + 1)) y x = (anyS (xs.take k) y x || (decide ((xs.getD k (0, 0)).1 = (x : Int)) && decide ((xs.getD k (0, 0)).2 = (y : Int)))) := by
  unfold anyS
  rw [List.take_succ_eq_append_getElem hk, List.any_append, List.getD_eq_getElem?_getD, List.getElem?_eq_getElem hk]
  simp
/-- the spots lie in the picture -/
def InP (wd h : Nat) (xs : List (Int × Int)) : Prop := ∀ i, i < xs.length → ∃ p q : Nat, (xs.getD i (0, 0)) = ((p : Int), (q : Int)) ∧ p < wd ∧ q < h
theorem listS_set (xs : List (Int × Int)) (wd N k p q : Nat) (hk : k < xs.length) (he : xs.getD k (0, 0) = ((p : Int), (q : Int))) (hp : p < wd) :
    (boolV (listF (anyS (xs.take k)) wd N)).set (q * wd + p) (.bool true) = boolV (listF (anyS (xs.take (k + 1))) wd N) := by
  have h1 : (q * wd + p) / wd = q := by rw [Nat.mul_comm, Nat.mul_add_div (by omega), Nat.div_eq_of_lt hp, Nat.add_zero]
  have h2 : (q * wd + p) % wd = p := by rw [Nat.mul_comm, Nat.mul_add_mod, Nat.mod_eq_of_lt hp]
  unfold boolV listF
  rw [List.map_map, List.map_map, set_map_range]
  apply List.map_congr_left
  intro j hj
  show _ = Value.bool (anyS (xs.take (k + 1)) (j / wd) (j % wd))
  rw [anyS_take xs k hk, he]
  by_cases h : j = q * wd + p
  · subst h
    rw [if_pos rfl, h1, h2]
    simp
  · rw [if_neg h]
    have hn : ¬ (p = j % wd ∧ q = j / wd) := fun ⟨a, b⟩ => h (by
      have := Nat.div_add_mod j wd
      rw [← a, ← b, Nat.mul_comm] at this
      omega)
    have e : (decide ((p : Int) = ((j % wd : Nat) : Int)) && decide ((q : Int) = ((j / wd : Nat) : Int))) = false := by
      rw [Bool.and_eq_false_iff, decide_eq_false_iff_not, decide_eq_false_iff_not]
      by_cases h3 : p = j % wd
      · right; intro e; exact hn ⟨h3, by omega⟩
      · left; omega
    show Value.bool (anyS (xs.take k) (j / wd) (j % wd)) = _
    rw [e, Bool.or_false]

theorem list_zero (xs : List (Int × Int)) (wd N : Nat) : boolV (listF (anyS (xs.take 0)) wd N) = List.replicate N (.bool false) := by
  rw [anyS_zero]
  unfold boolV listF
  rw [List.map_map]
  apply List.ext_getElem?
  intro i
  by_cases hi : i < N <;> simp [hi]

set_option maxHeartbeats 2000000 in
set_option maxRecDepth 100000 in
theorem l01FromSpots_any (wd h b n cap : Nat) (xs : List (Int × Int)) (w : World) (hw : 1 ≤ wd ∧ wd ≤ 16) (hh : 1 ≤ h ∧ h ≤ 16) (hn : xs.length = n) (hN : n ≤ 1048576) (hv : Spots w b xs) (hin : InP wd h xs) :
    Calls Tryd.prog 36 #[.int .i64 wd, .int .i64 h, .slice (some ⟨b, 0, none⟩) n cap] w (TookPic w (mkPic wd h (anyS xs))) := by
  obtain ⟨i0, hi, hz0, hz1, hz2⟩ := info_parts Tryd.info4
  have hNle : wd * h ≤ 256 := Nat.mul_le_mul hw.2 hh.2
  have C := Lib.hid (fun (lb cap : Nat) (W : World) (hB : Bools W lb 0 (listF (anyS xs) wd (wd * h))) => make_list (anyS xs) lb cap wd h W hw hh hB)
  obtain ⟨pic, hpic⟩ : ∃ p, mkPic wd h (anyS xs) = p := ⟨_, rfl⟩
  rw [hpic] at C ⊢
  have hc : (wd : Int) * (h : Int) = ((wd * h : Nat) : Int) := by push_cast; rfl
  have hidx : ∀ p q : Nat, p < wd → q < h → q * wd + p < wd * h := fun p q hp hq => by
    have h3 : (q + 1) * wd ≤ h * wd := Nat.mul_le_mul_right _ hq
    rw [Nat.add_mul, Nat.one_mul, Nat.mul_comm h] at h3
    omega
  have HX := Lib.hid hidx
  have HI := Lib.hid hin
  obtain ⟨NN, hNN⟩ : ∃ N, wd * h = N := ⟨_, rfl⟩
  rw [hNN] at C hNle hc HX
  have hP0 : Hid ((w.alloc (.cells #[.slice none 0 0] 26)).heap[w.heap.size]? = some (.cells #[.slice none 0 0] 26 (0, 0))) := heap_alloc_last w _
  have HN := Lib.hid hn
  obtain ⟨hw1, hw2⟩ := hw
  obtain ⟨hh1, hh2⟩ := hh
  obtain ⟨hb, hv⟩ := hv
  have HC := Lib.hid hv
  clear hidx hin hpic hNN hn hv
  go_enter Tryd.func36, Tryd.ntmps36
  go_wp2_with (at_make; refine wpList_make_full _ rfl _ _ 59 rfl w.heap.size 4 i0 (.bool false) 1 Tryd.underlying59 hi hz0 hz1 _ _ _ _ NN rfl rfl rfl rfl ?c1 ?c2 (by simp) ?_)
  case c1 => rw [hz2]; omega
  case c2 => unfold maxLen; omega
  intro w1 hown hgr
  rw [toList_madeCells_one] at hown
  have hbel : Below w.heap.size w w1 := (Joins.below_alloc1 w _).grown hgr (by simp) (fun k h => by cases h)
  have hp1 : w1.heap[w.heap.size]? = some (.cells #[.slice none 0 0] 26 (0, 0)) := (hgr.block _ (by simp) (by simp)).trans hP0.out
  rw [← list_zero xs wd NN] at hown
  clear hgr hc
  go_wp2
  go_loopw [8] (fun i wr => ∃ k : Nat, k ≤ n ∧ i = .int .i64 k ∧ wr.ownsRow w.heap.size 4 1 (.slice (some ⟨w.heap.size + 1, 0, none⟩) NN NN) NN (boolV (listF (anyS (xs.take k)) wd NN)) ∧ wr.heap[w.heap.size]? = some (.cells #[.slice none 0 0] 26 (0, 0)) ∧ Below w.heap.size w wr) (fun i _ => n - (intOf i).toNat)
  case atStart => exact ⟨0, Nat.zero_le _, rfl, by simpa using hown, hp1, hbel⟩
  case round =>
    clear hown hp1 hbel
    obtain ⟨k, hk, rfl, hown, hp1, hbel⟩ := hrel
    by_cases hlt : k < n
    · obtain ⟨p, q, he, hp, hq⟩ := HI.out k (by rw [HN.out]; exact hlt)
      have hcx := (hbel.cell (p := ⟨b, k * 2, none⟩) hb).trans (HC.out k (by rw [HN.out]; exact hlt)).1
      have hcy := (hbel.cell (p := ⟨b, k * 2 + 1, none⟩) hb).trans (HC.out k (by rw [HN.out]; exact hlt)).2
      rw [he] at hcx hcy
      have hst := (hown.stored (q * wd + p) (.bool true)).1
      rw [listS_set xs wd NN k p q (by rw [HN.out]; exact hlt) he hp] at hst
      have hQi := HX.out p q hp hq
      have hfz := hown.frozenAt (q * wd + p)
      have hlen : q * wd + p < (boolV (listF (anyS (xs.take k)) wd NN)).length := by unfold boolV; rw [List.length_map, listF_len]; exact hQi
      have hold := hown.cellAt (q * wd + p) (by omega)
      rw [List.getElem?_eq_getElem hlen] at hold
      obtain ⟨u, hu⟩ : ∃ u, (boolV (listF (anyS (xs.take k)) wd NN))[q * wd + p] = u := ⟨_, rfl⟩
      rw [hu] at hold
      have kc : (q : Int) * (wd : Int) = ((q * wd : Nat) : Int) := by push_cast; rfl
      have b2 : w.heap.size ≤ w.heap.size + 1 := by omega
      have HB2 := Lib.hid (hbel.setCell (p := ⟨w.heap.size + 1, q * wd + p, none⟩) b2 (.bool true))
      have HP2 : Hid ((wr.setCell ⟨w.heap.size + 1, q * wd + p, none⟩ (.bool true)).heap[w.heap.size]? = some (.cells #[.slice none 0 0] 26 (0, 0))) := by
        show _ = _
        rw [Below.heap_setCell _ _ _ _ (by simp)]; exact hp1
      obtain ⟨Q, hQ⟩ : ∃ k, q * wd = k := ⟨_, rfl⟩
      rw [hQ] at hst hQi hfz hold kc HB2 HP2
      have k1 : IntKind.i64.wrap ((q : Int) * (wd : Int)) = (Q : Int) := by rw [kc]; exact IntWalk.i64_in _ (by omega)
      have k2 : IntKind.i64.wrap ((Q : Int) + (p : Int)) = (Q : Int) + (p : Int) := IntWalk.i64_in _ (by omega)
      have k3 : (Q : Int) + (p : Int) < (NN : Int) := by omega
      have k4 : (0 : Int) ≤ (Q : Int) + (p : Int) := by omega
      have k5 : ((Q : Int) + (p : Int)).toNat = Q + p := by omega
      have k6 : (0 : Int) ≤ (k : Int) := by omega
      have k7 : (k : Int) < (n : Int) := by omega
      have HS := Lib.hid hst
      clear hst hown hp1 hbel hlen hu hQ he kc hp hq
      go_wp2
      go_region
      clear k1 k2 k3 k4 k5 k6 k7 hfz hold hcx hcy
      go_wp2
      go_roundw
      case rel => exact ⟨k + 1, by omega, by go_num, HS.out, HP2.out, HB2.out.drew⟩
      case measure => simp [intOf]; omega
    · obtain rfl : k = n := by omega
      rw [List.take_of_length_le (by rw [HN.out]; exact Nat.le_refl _)] at hown
      have HBo := Lib.hid (own_bools hown (by rw [listF_len]))
      have P1 := Lib.hid hp1
      have B1 := Lib.hid hbel
      have hs1 := hbel.size
      clear hown hp1 hbel
      go_wp2_with fail
      refine (C.out _ _ _ HBo.out).mono ?_
      rintro e w2 ⟨g, cap2, rfl, hown2, hb2⟩
      have hp2 := (hb2.block _ (Array.getElem?_eq_some_iff.1 P1.out).1).trans P1.out
      have hfr : w2.frozen? ⟨w.heap.size, 0, none⟩ = false := free_of_one hp2
      have hc2 : w2.cell? ⟨w.heap.size, 0, none⟩ = some (.slice none 0 0) := cell_of_one hp2
      have O2 := Lib.hid (own_set (u := .slice (some ⟨g, 0, none⟩) pic.length cap2) hown2 hp2 (by decide))
      have P2 := Lib.hid hp2
      have B2 := Lib.hid (B1.out.trans (hb2.mono hs1))
      clear hown2 hp2 hb2
      go_wp2_with fail
      refine bodyPost_ret (v := .agg #[.slice (some ⟨g, 0, none⟩) pic.length cap2]) (by simp [results, Tryd.results36, go_sem, cell_of_one (one_setCell P2.out)]) rfl ⟨g, cap2, rfl, Joins.ownsRow_le O2.out hs1, B2.out.setCell (by simp) _⟩
end Go.Proofs.YtmfaonddhmhjeaaDoor
