/- Contracts of single functions, and plain lemmas, on which the exact laws of this seat rest; each holds under the conditions that it states. -/
import Derived.Test.YtmbkmkpclfgppaaDoorWd
import Derived.Lib.SplitLaws
import Derived.Lib.IndexLaws
import Derived.Laws.DeepStrings4
import Derived.Maps.AppendAt
import Derived.OwnWalk
import Derived.OneCell
namespace Go.Proofs.YtmbkmkpclfgppaaDoor
set_option linter.unusedVariables false
set_option linter.unusedSimpArgs false
open Go.RowKit

/-! ### a text cut at slashes -/
/-- what is cut, behind acc -/
def cutAP (acc : List UInt8) : List UInt8 → List (List UInt8)
  | [] => [acc]
  | c :: r => if c = 47 then acc :: cutAP [] r else cutAP (acc ++ [c]) r
theorem cutA_noP : ∀ (l acc : List UInt8), (∀ k : Nat, l[k]? ≠ some (47 : UInt8)) → cutAP acc l = [acc ++ l]
  | [], acc, _ => by simp [cutAP]
  | c :: r, acc, h => by
    have h0 : ¬ c = 47 := fun e => h 0 (by rw [e]; rfl)
    unfold cutAP
    rw [if_neg h0, cutA_noP r (acc ++ [c]) (fun k => h (k + 1))]
    simp
theorem cutA_hitP : ∀ (p acc r : List UInt8), (∀ k : Nat, k < p.length → p[k]? ≠ some (47 : UInt8)) → cutAP acc (p ++ 47 :: r) = (acc ++ p) :: cutAP [] r
  | [], acc, r, _ => by
    show cutAP acc (47 :: r) = _
    rw [cutAP, if_pos rfl, List.append_nil]
  | c :: p, acc, r, h => by
    have h0 : ¬ c = 47 := fun e => h 0 (by simp) (by rw [e]; rfl)
    show cutAP acc (c :: (p ++ 47 :: r)) = _
    rw [cutAP, if_neg h0, cutA_hitP p (acc ++ [c]) r (fun k hk => h (k + 1) (by simp; omega))]
    simp
theorem cutA_lenP : ∀ (l acc : List UInt8), (cutAP acc l).length = l.count 47 + 1
  | [], acc => by simp [cutAP]
  | c :: r, acc => by
    unfold cutAP
    by_cases h : c = 47
    · rw [if_pos h, List.length_cons, cutA_lenP r, h, List.count_cons_self]
    · rw [if_neg h, cutA_lenP r, List.count_cons_of_ne (fun e => h e)]
def toLP (b : ByteArray) : List UInt8 := b.data.toList
theorem toL_injP {a b : ByteArray} (h : toLP a = toLP b) : a = b := by
  cases a; cases b
  congr 1
  exact Array.toList_inj.1 h
theorem toLs_injP : ∀ {a b : List ByteArray}, a.map toLP = b.map toLP → a = b
  | [], [], _ => rfl
  | [], _ :: _, h => by cases h
  | _ :: _, [], h => by cases h
  | x :: a, y :: b, h => by
    rw [List.map_cons, List.map_cons] at h
    rw [toL_injP (List.cons.inj h).1, toLs_injP (List.cons.inj h).2]
/-- the piecesP of a text -/
def piecesP (s : ByteArray) : List ByteArray := (cutAP [] (toLP s)).map fun l => ⟨l.toArray⟩
theorem pieces_toLP (s : ByteArray) : (piecesP s).map toLP = cutAP [] (toLP s) := by
  unfold piecesP
  rw [List.map_map]
  exact List.map_id' _
theorem ext_toLP (s : ByteArray) (a b : Nat) : toLP (s.extract a b) = ((toLP s).take b).drop a := by
  unfold toLP
  rw [Lib.extract_data, List.drop_take]

/-- the state of the cut: done and what is left -/
def CutIP (s : ByteArray) (done : List ByteArray) (f k : Nat) : Prop :=
  f ≤ k ∧ done.length ≤ k ∧ k ≤ s.size + 1 ∧ (k ≤ s.size → cutAP [] (toLP s) = done.map toLP ++ cutAP (((toLP s).take k).drop f) ((toLP s).drop k)) ∧ (k = s.size + 1 → piecesP s = done)
theorem CutIP.zero (s : ByteArray) : CutIP s [] 0 0 := ⟨Nat.le_refl _, Nat.le_refl _, Nat.zero_le _, fun _ => by simp, fun h => by omega⟩
theorem toL_lenP (s : ByteArray) : (toLP s).length = s.size := by unfold toLP; rw [Array.length_toList]; rfl
theorem CutIP.last {s : ByteArray} {done : List ByteArray} {f : Nat} (H : CutIP s done f s.size) : CutIP s (done ++ [s.extract f s.size]) (s.size + 1) (s.size + 1) := by
  obtain ⟨h1, h2, h3, h4, h5⟩ := H
  refine ⟨Nat.le_refl _, by simp; omega, Nat.le_refl _, fun h => by omega, fun _ => ?_⟩
  apply toLs_injP
  rw [pieces_toLP, h4 (Nat.le_refl _), List.map_append, List.map_cons, ext_toLP, List.drop_eq_nil_of_le (by rw [toL_lenP]; exact Nat.le_refl _ : (toLP s).length ≤ s.size)]
  rfl
theorem toL_dropP {s : ByteArray} {k : Nat} (h : k < s.size) : (toLP s).drop k = s[k] :: (toLP s).drop (k + 1) := by
  rw [List.drop_eq_getElem_cons (by rw [toL_lenP]; exact h)]
  rfl
theorem CutIP.hit {s : ByteArray} {done : List ByteArray} {f k : Nat} (H : CutIP s done f k) (hk : k < s.size) (hc : s[k].toNat = 47) : CutIP s (done ++ [s.extract f k]) (k + 1) (k + 1) := by
  obtain ⟨h1, h2, h3, h4, h5⟩ := H
  refine ⟨Nat.le_refl _, by simp; omega, by omega, fun h => ?_, fun h => by omega⟩
  rw [h4 (by omega), toL_dropP hk, cutAP, if_pos (UInt8.toNat_inj.1 (by rw [hc]; rfl)), List.map_append, List.map_cons, ext_toLP, List.drop_eq_nil_of_le (by rw [List.length_take]; omega : ((toLP s).take (k + 1)).length ≤ k + 1)]
  simp
theorem CutIP.miss {s : ByteArray} {done : List ByteArray} {f k : Nat} (H : CutIP s done f k) (hk : k < s.size) (hc : ¬ s[k].toNat = 47) : CutIP s done f (k + 1) := by
  obtain ⟨h1, h2, h3, h4, h5⟩ := H
  refine ⟨by omega, by omega, by omega, fun h => ?_, fun h => by omega⟩
  have e : ((toLP s).take (k + 1)).drop f = ((toLP s).take k).drop f ++ [s[k]] := by
    rw [List.take_succ_eq_append_getElem (by rw [toL_lenP]; exact hk), List.drop_append_of_le_length (by rw [List.length_take, toL_lenP]; omega)]
    rfl
  rw [h4 (by omega), toL_dropP hk, cutAP, if_neg (fun e => hc (by rw [e]; rfl)), e]

theorem strs_snocP (xs : List ByteArray) (x : ByteArray) : (xs ++ [x]).map Value.string = xs.map Value.string ++ [Value.string x] := by simp
/-- piecesP handed back -/
def SaysCutP (s : ByteArray) (w : World) (e : Ending) (w' : World) : Prop := ∃ v, e = .returned v ∧ OwnP w' w.heap.size v (piecesP s) ∧ Below w.heap.size w w'
set_option maxHeartbeats 2000000 in
set_option maxRecDepth 100000 in
theorem l01Cut_anyP (s : ByteArray) (w : World) (hs : s.size ≤ 1048576) : Calls Tryd.prog 16 #[.string s, .int .u8 47] w (SaysCutP s w) := by
  obtain ⟨i0, hi, hz0, hz1, hz2⟩ := info_parts Tryd.info9
  have C0 := Lib.hid (CutIP.zero s)
  go_enter Tryd.func16, Tryd.ntmps16
  go_wp2
  go_loopw [5, 6, 7] (fun ov fv iv wr => ∃ (u : Value) (f k : Nat) (done : List ByteArray), u = ov ∧ fv = .int .i64 f ∧ iv = .int .i64 k ∧ Hid (CutIP s done f k) ∧ wr.ownsRow w.heap.size 9 1 u done.length (done.map Value.string) ∧ Below w.heap.size w wr) (fun _ _ iv _ => s.size + 1 - (intOf iv).toNat)
  case atStart => exact ⟨_, 0, 0, [], rfl, rfl, rfl, C0.out, World.ownsRow_lit (base := w.heap.size) (e := 9) (size := 1) w #[] 0 (Nat.le_refl _) (by unfold maxLen; omega) rfl, Joins.below_alloc1 _ _⟩
  case round =>
    clear C0
    obtain ⟨u, f, k, done, rfl, rfl, rfl, HC, hown, hbel⟩ := hrel
    have hfk := HC.out.1
    have hdl := HC.out.2.1
    have hkn := HC.out.2.2.1
    have HO := Lib.hid hown
    have HB := Lib.hid hbel
    have hs1 := hbel.size
    clear hown hbel
    by_cases hle : k ≤ s.size
    · have kle : (k : Int) ≤ (s.size : Int) := by omega
      have kfk : (f : Int) ≤ (k : Int) := by omega
      have k0 : (0 : Int) ≤ (f : Int) := by omega
      obtain ⟨x, hx⟩ : ∃ x, s.extract f k = x := ⟨_, rfl⟩
      have HX := Lib.hid hx
      obtain ⟨nl, hnl⟩ : ∃ n, done.length = n := ⟨_, rfl⟩
      have HNl := Lib.hid hnl
      rw [hnl] at hdl HO
      have hsn := Lib.hid (strs_snocP done x)
      by_cases hlast : k = s.size
      · have HC2 : Hid (CutIP s (done ++ [x]) (k + 1) (k + 1)) := by
          show CutIP _ _ _ _
          rw [← HX.out]; subst hlast; exact HC.out.last
        have ke : ((k : Int) == (s.size : Int)) = true := by rw [hlast]; exact beq_self_eq_true _
        clear hnl hlast
        go_wp2_with (at_builtin; refine wpList_append_own _ rfl _ _ 22 rfl w.heap.size 9 i0 (.string ⟨#[]⟩) 1 16 Tryd.underlying22 hi hz0 hz1 hz2 rfl (by decide) _ _ _ rfl (HO.out.alloc _) ⟨wr.heap.size, 0, none⟩ 1 1 [.string x] rfl rfl (cell_one_new _ _ _) (by intro u hu; simp at hu; subst hu; rfl) (by unfold maxLen; omega) (by omega) (by simp; omega) ?_)
        intro v' w2 hown' hgr _
        have o1 := HO.out.alloc (.cells #[.string x] 9)
        have B2 : Hid (Below w.heap.size w w2) := (HB.out.alloc hs1 _).grown hgr (by simp; omega) (fun k hk => (o1.lt k hk).1)
        have O2 : Hid (w2.ownsRow w.heap.size 9 1 v' (done ++ [x]).length ((done ++ [x]).map Value.string)) := by
          show World.ownsRow _ _ _ _ _ _ _
          rw [hsn.out, List.length_append, HNl.out]; exact hown'
        clear hown' hgr o1
        go_wp2
        go_roundw
        case rel => exact ⟨_, k + 1, k + 1, done ++ [x], rfl, by go_num, by go_num, HC2.out, O2.out, B2.out⟩
        case measure => simp [intOf]; omega
      · have hlt : k < s.size := by omega
        have klt : (k : Int) < (s.size : Int) := by omega
        have ke : ((k : Int) == (s.size : Int)) = false := by rw [beq_eq_false_iff_ne]; omega
        obtain ⟨c, hc⟩ : ∃ c, (s[k]'hlt).toNat = c := ⟨_, rfl⟩
        by_cases h44 : c = 47
        · have HC2 : Hid (CutIP s (done ++ [x]) (k + 1) (k + 1)) := by
            show CutIP _ _ _ _
            rw [← HX.out]; exact HC.out.hit hlt (hc.trans h44)
          have kc : (((s[k]'hlt).toNat : Int) == 47) = true := by rw [hc, h44]; rfl
          clear hnl hc h44 hlast
          go_wp2_with (at_builtin; refine wpList_append_own _ rfl _ _ 22 rfl w.heap.size 9 i0 (.string ⟨#[]⟩) 1 16 Tryd.underlying22 hi hz0 hz1 hz2 rfl (by decide) _ _ _ rfl (HO.out.alloc _) ⟨wr.heap.size, 0, none⟩ 1 1 [.string x] rfl rfl (cell_one_new _ _ _) (by intro u hu; simp at hu; subst hu; rfl) (by unfold maxLen; omega) (by omega) (by simp; omega) ?_)
          intro v' w2 hown' hgr _
          have o1 := HO.out.alloc (.cells #[.string x] 9)
          have B2 : Hid (Below w.heap.size w w2) := (HB.out.alloc hs1 _).grown hgr (by simp; omega) (fun k hk => (o1.lt k hk).1)
          have O2 : Hid (w2.ownsRow w.heap.size 9 1 v' (done ++ [x]).length ((done ++ [x]).map Value.string)) := by
            show World.ownsRow _ _ _ _ _ _ _
            rw [hsn.out, List.length_append, HNl.out]; exact hown'
          clear hown' hgr o1
          go_wp2
          go_roundw
          case rel => exact ⟨_, k + 1, k + 1, done ++ [x], rfl, by go_num, by go_num, HC2.out, O2.out, B2.out⟩
          case measure => simp [intOf]; omega
        · have HC2 : Hid (CutIP s done f (k + 1)) := HC.out.miss hlt (by omega)
          have kc : (((s[k]'hlt).toNat : Int) == 47) = false := by rw [beq_eq_false_iff_ne]; omega
          clear hc h44 hlast
          go_wp2
          go_roundw
          case rel => exact ⟨_, f, k + 1, done, rfl, rfl, by go_num, HC2.out, by rw [HNl.out]; exact HO.out, HB.out⟩
          case measure => simp [intOf]; omega
    · obtain rfl : k = s.size + 1 := by omega
      have HP : Hid (OwnP wr w.heap.size u (piecesP s)) := by
        show OwnP _ _ _ _
        rw [HC.out.2.2.2.2 rfl]
        exact HO.out
      go_wp2
      go_ret
      exact ⟨_, rfl, HP.out, HB.out⟩
end Go.Proofs.YtmbkmkpclfgppaaDoor
