/- Contracts of single functions, and plain lemmas, on which the exact laws of this seat rest; each holds under the conditions that it states. -/
import Derived.Test.YtiamjdbfoibnnaaDoorYa
import Derived.Laws.DeepStrings4
import Derived.Maps.AppendAt
namespace Go.Proofs.YtiamjdbfoibnnaaDoor
set_option linter.unusedVariables false
set_option linter.unusedSimpArgs false
open Go.RowKit

theorem ext_toL (s : ByteArray) (a b : Nat) : toL (s.extract a b) = ((toL s).take b).drop a := by
  unfold toL
  rw [Lib.extract_data, List.drop_take]

/-- the state of the cut: done and what is left -/
def CutI (s : ByteArray) (done : List ByteArray) (f k : Nat) : Prop :=
  f ≤ k ∧ done.length ≤ k ∧ k ≤ s.size + 1 ∧ (k ≤ s.size → cutA [] (toL s) = done.map toL ++ cutA (((toL s).take k).drop f) ((toL s).drop k)) ∧ (k = s.size + 1 → pieces s = done)
theorem CutI.zero (s : ByteArray) : CutI s [] 0 0 := ⟨Nat.le_refl _, Nat.le_refl _, Nat.zero_le _, fun _ => by simp, fun h => by omega⟩
theorem toL_len (s : ByteArray) : (toL s).length = s.size := by unfold toL; rw [Array.length_toList]; rfl
theorem CutI.last {s : ByteArray} {done : List ByteArray} {f : Nat} (H : CutI s done f s.size) : CutI s (done ++ [s.extract f s.size]) (s.size + 1) (s.size + 1) := by
  obtain ⟨h1, h2, h3, h4, h5⟩ := H
  refine ⟨Nat.le_refl _, by simp; omega, Nat.le_refl _, fun h => by omega, fun _ => ?_⟩
  apply toLs_inj
  rw [pieces_toL, h4 (Nat.le_refl _), List.map_append, List.map_cons, ext_toL, List.drop_eq_nil_of_le (by rw [toL_len]; exact Nat.le_refl _ : (toL s).length ≤ s.size)]
  rfl
theorem toL_drop {s : ByteArray} {k : Nat} (h : k < s.size) : (toL s).drop k = s[k] :: (toL s).drop (k + 1) := by
  rw [List.drop_eq_getElem_cons (by rw [toL_len]; exact h)]
  rfl
theorem CutI.hit {s : ByteArray} {done : List ByteArray} {f k : Nat} (H : CutI s done f k) (hk : k < s.size) (hc : s[k].toNat = 44) : CutI s (done ++ [s.extract f k]) (k + 1) (k + 1) := by
  obtain ⟨h1, h2, h3, h4, h5⟩ := H
  refine ⟨Nat.le_refl _, by simp; omega, by omega, fun h => ?_, fun h => by omega⟩
  rw [h4 (by omega), toL_drop hk, cutA, if_pos (UInt8.toNat_inj.1 (by rw [hc]; rfl)), List.map_append, List.map_cons, ext_toL, List.drop_eq_nil_of_le (by rw [List.length_take]; omega : ((toL s).take (k + 1)).length ≤ k + 1)]
  simp
theorem CutI.miss {s : ByteArray} {done : List ByteArray} {f k : Nat} (H : CutI s done f k) (hk : k < s.size) (hc : ¬ s[k].toNat = 44) : CutI s done f (k + 1) := by
  obtain ⟨h1, h2, h3, h4, h5⟩ := H
  refine ⟨by omega, by omega, by omega, fun h => ?_, fun h => by omega⟩
  have e : ((toL s).take (k + 1)).drop f = ((toL s).take k).drop f ++ [s[k]] := by
    rw [List.take_succ_eq_append_getElem (by rw [toL_len]; exact hk), List.drop_append_of_le_length (by rw [List.length_take, toL_len]; omega)]
    rfl
  rw [h4 (by omega), toL_drop hk, cutA, if_neg (fun e => hc (by rw [e]; rfl)), e]

theorem strs_snoc (xs : List ByteArray) (x : ByteArray) : (xs ++ [x]).map Value.string = xs.map Value.string ++ [Value.string x] := by simp
/-- pieces handed back -/
def SaysCut (s : ByteArray) (w : World) (e : Ending) (w' : World) : Prop := ∃ v, e = .returned v ∧ OwnP w' w.heap.size v (pieces s) ∧ Below w.heap.size w w'
set_option maxHeartbeats 2000000 in
set_option maxRecDepth 100000 in
theorem l01Cut_any (s : ByteArray) (w : World) (hs : s.size ≤ 1048576) : Calls Tryd.prog 37 #[.string s, .int .u8 44] w (SaysCut s w) := by
  obtain ⟨i0, hi, hz0, hz1, hz2⟩ := info_parts Tryd.info9
  have C0 := Lib.hid (CutI.zero s)
  go_enter Tryd.func37, Tryd.ntmps37
  go_wp2
  go_loopw [5, 6, 7] (fun ov fv iv wr => ∃ (u : Value) (f k : Nat) (done : List ByteArray), u = ov ∧ fv = .int .i64 f ∧ iv = .int .i64 k ∧ Hid (CutI s done f k) ∧ wr.ownsRow w.heap.size 9 1 u done.length (done.map Value.string) ∧ Below w.heap.size w wr) (fun _ _ iv _ => s.size + 1 - (intOf iv).toNat)
  case atStart => exact ⟨_, 0, 0, [], rfl, rfl, rfl, C0.out, World.ownsRow_lit (base := w.heap.size) (e := 9) (size := 1) w #[] 0 (Nat.le_refl _) (by unfold maxLen; omega) rfl, Joins.below_alloc1 _ _⟩
  case round =>
    clear C0
    obtain ⟨u, f, k, done, rfl, rfl, rfl, HC, hown, hbel⟩ := hrel
    have hfk := HC.out.1
    have hdl := HC.out.2.1
    have hkn := HC.out.2.2.1
    have HO := Lib.hid hown
    have HB := Lib.hid hbel
    have hs1 := hbel.size
    clear hown hbel
    by_cases hle : k ≤ s.size
    · have kle : (k : Int) ≤ (s.size : Int) := by omega
      have kfk : (f : Int) ≤ (k : Int) := by omega
      have k0 : (0 : Int) ≤ (f : Int) := by omega
      obtain ⟨x, hx⟩ : ∃ x, s.extract f k = x := ⟨_, rfl⟩
      have HX := Lib.hid hx
      obtain ⟨nl, hnl⟩ : ∃ n, done.length = n := ⟨_, rfl⟩
      have HNl := Lib.hid hnl
      rw [hnl] at hdl HO
      have hsn := Lib.hid (strs_snoc done x)
      by_cases hlast : k = s.size
      · have HC2 : Hid (CutI s (done ++ [x]) (k + 1) (k + 1)) := by
          show CutI _ _ _ _
          rw [← HX.out]; subst hlast; exact HC.out.last
        have ke : ((k : Int) == (s.size : Int)) = true := by rw [hlast]; exact beq_self_eq_true _
        clear hnl hlast
        go_wp2_with (at_builtin; refine wpList_append_own _ rfl _ _ 51 rfl w.heap.size 9 i0 (.string ⟨#[]⟩) 1 16 Tryd.underlying51 hi hz0 hz1 hz2 rfl (by decide) _ _ _ rfl (HO.out.alloc _) ⟨wr.heap.size, 0, none⟩ 1 1 [.string x] rfl rfl (cell_one_new _ _ _) (by intro u hu; simp at hu; subst hu; rfl) (by unfold maxLen; omega) (by omega) (by simp; omega) ?_)
        intro v' w2 hown' hgr _
        have o1 := HO.out.alloc (.cells #[.string x] 9)
        have B2 : Hid (Below w.heap.size w w2) := (HB.out.alloc hs1 _).grown hgr (by simp; omega) (fun k hk => (o1.lt k hk).1)
        have O2 : Hid (w2.ownsRow w.heap.size 9 1 v' (done ++ [x]).length ((done ++ [x]).map Value.string)) := by
          show World.ownsRow _ _ _ _ _ _ _
          rw [hsn.out, List.length_append, HNl.out]; exact hown'
        clear hown' hgr o1
        go_wp2
        go_roundw
        case rel => exact ⟨_, k + 1, k + 1, done ++ [x], rfl, by go_num, by go_num, HC2.out, O2.out, B2.out⟩
        case measure => simp [intOf]; omega
      · have hlt : k < s.size := by omega
        have klt : (k : Int) < (s.size : Int) := by omega
        have ke : ((k : Int) == (s.size : Int)) = false := by rw [beq_eq_false_iff_ne]; omega
        obtain ⟨c, hc⟩ : ∃ c, (s[k]'hlt).toNat = c := ⟨_, rfl⟩
        by_cases h44 : c = 44
        · have HC2 : Hid (CutI s (done ++ [x]) (k + 1) (k + 1)) := by
            show CutI _ _ _ _
            rw [← HX.out]; exact HC.out.hit hlt (hc.trans h44)
          have kc : (((s[k]'hlt).toNat : Int) == 44) = true := by rw [hc, h44]; rfl
          clear hnl hc h44 hlast
          go_wp2_with (at_builtin; refine wpList_append_own _ rfl _ _ 51 rfl w.heap.size 9 i0 (.string ⟨#[]⟩) 1 16 Tryd.underlying51 hi hz0 hz1 hz2 rfl (by decide) _ _ _ rfl (HO.out.alloc _) ⟨wr.heap.size, 0, none⟩ 1 1 [.string x] rfl rfl (cell_one_new _ _ _) (by intro u hu; simp at hu; subst hu; rfl) (by unfold maxLen; omega) (by omega) (by simp; omega) ?_)
          intro v' w2 hown' hgr _
          have o1 := HO.out.alloc (.cells #[.string x] 9)
          have B2 : Hid (Below w.heap.size w w2) := (HB.out.alloc hs1 _).grown hgr (by simp; omega) (fun k hk => (o1.lt k hk).1)
          have O2 : Hid (w2.ownsRow w.heap.size 9 1 v' (done ++ [x]).length ((done ++ [x]).map Value.string)) := by
            show World.ownsRow _ _ _ _ _ _ _
            rw [hsn.out, List.length_append, HNl.out]; exact hown'
          clear hown' hgr o1
          go_wp2
          go_roundw
          case rel => exact ⟨_, k + 1, k + 1, done ++ [x], rfl, by go_num, by go_num, HC2.out, O2.out, B2.out⟩
          case measure => simp [intOf]; omega
        · have HC2 : Hid (CutI s done f (k + 1)) := HC.out.miss hlt (by omega)
          have kc : (((s[k]'hlt).toNat : Int) == 44) = false := by rw [beq_eq_false_iff_ne]; omega
          clear hc h44 hlast
          go_wp2
          go_roundw
          case rel => exact ⟨_, f, k + 1, done, rfl, rfl, by go_num, HC2.out, by rw [HNl.out]; exact HO.out, HB.out⟩
          case measure => simp [intOf]; omega
    · obtain rfl : k = s.size + 1 := by omega
      have HP : Hid (OwnP wr w.heap.size u (pieces s)) := by
        show OwnP _ _ _ _
        rw [HC.out.2.2.2.2 rfl]
        exact HO.out
      go_wp2
      go_ret
      exact ⟨_, rfl, HP.out, HB.out⟩
end Go.Proofs.YtiamjdbfoibnnaaDoor
