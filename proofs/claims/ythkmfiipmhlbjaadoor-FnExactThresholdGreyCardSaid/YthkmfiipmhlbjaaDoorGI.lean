/- Contracts of single functions, and plain lemmas, on which the exact laws of this seat rest; each holds under the conditions that it states. -/
import Derived.Test.YthkmfiipmhlbjaaDoorGD
import Derived.Test.YthkmfiipmhlbjaaDoorLf
import Derived.Test.YthkmfiipmhlbjaaDoorPb
namespace Go.Proofs.YthkmfiipmhlbjaaDoor
set_option linter.unusedVariables false
set_option linter.unusedSimpArgs false
open Go.RowKit

/-! ### the numbers of a grey picture as one list -/
def flG (gs : List (List Int)) : Nat → List Int
  | 0 => []
  | k + 1 => flG gs k ++ rowF gs k
theorem flG_len {m : Int} {gs : List (List Int)} (V : VG m gs) : ∀ k, k ≤ gs.length → (flG gs k).length = k * (rowF gs 0).length
  | 0, _ => by simp [flG]
  | k + 1, h => by
    have h1 := V.len k (by omega)
    rw [flG, List.length_append, flG_len V k (by omega), h1, Nat.add_mul, Nat.one_mul]
theorem flG_at {m : Int} {gs : List (List Int)} (V : VG m gs) (y x : Nat) (hx : x < (rowF gs 0).length) : ∀ k, k ≤ gs.length → y < k → (flG gs k).getD (y * (rowF gs 0).length + x) 0 = (rowF gs y).getD x 0
  | 0, _, h => absurd h (Nat.not_lt_zero _)
  | k + 1, hk, h => by
    have hl := flG_len V k (by omega)
    have h1 := V.len k (by omega)
    rw [flG, List.getD_eq_getElem?_getD, List.getElem?_append, hl]
    by_cases e : y < k
    · have : (y + 1) * (rowF gs 0).length ≤ k * (rowF gs 0).length := Nat.mul_le_mul e (Nat.le_refl _)
      rw [Nat.add_mul, Nat.one_mul] at this
      rw [if_pos (by omega), ← List.getD_eq_getElem?_getD]
      exact flG_at V y x hx k (by omega) e
    · obtain rfl : y = k := by omega
      rw [if_neg (by omega), Nat.add_sub_cancel_left, ← List.getD_eq_getElem?_getD]

set_option maxHeartbeats 2000000 in
set_option maxRecDepth 100000 in
theorem l07List_any {m : Int} (v : Value) (gs : List (List Int)) (w : World) (V : VG m gs) (hv : SlG w v gs) :
    Calls Tryd.prog 56 #[v] w (fun e w' => ∃ g cap, e = .returned (.slice (some ⟨g, 0, none⟩) (flG gs gs.length).length cap) ∧ OwnN w' w.heap.size (.slice (some ⟨g, 0, none⟩) (flG gs gs.length).length cap) (flG gs gs.length) ∧ Below w.heap.size w w') := by
  obtain ⟨i0, hi, hz0, hz1, hz2⟩ := info_parts infoN64
  obtain ⟨ao, cap, rfl, ho⟩ := hv.open'
  obtain ⟨b, off, rfl, hbl, hrow⟩ := ho V.n1
  have hn16 := V.n16
  have hw16 := V.w16
  have HLen := Lib.hid (fun k (h : k ≤ gs.length) => flG_len V k h)
  have HRl : Hid (∀ i, i < gs.length → (rowF gs i).length = (rowF gs 0).length) := V.len
  have hw1 := V.w1
  have hn1 := V.n1
  have HRow : Hid (∀ W, Below w.heap.size w W → ∀ i, i < gs.length → ∃ (b2 o2 cy : Nat), W.cell? ⟨b, off + i, none⟩ = some (.slice (some ⟨b2, o2, none⟩) (rowF gs i).length cy) ∧ ∀ j, j < (rowF gs i).length → W.cell? ⟨b2, o2 + j, none⟩ = some (.int .i64 ((rowF gs i).getD j 0))) := fun W hb i hi => by
    obtain ⟨ay, cy, h1, _, h3⟩ := hrow i hi
    obtain ⟨b2, o2, rfl, h4, h5⟩ := h3 (by rw [V.len i hi]; exact V.w1)
    exact ⟨b2, o2, cy, cell_kept hb h1, fun j hj => cell_kept hb (h5 j hj)⟩
  have HFl : Hid (∀ k, flG gs (k + 1) = flG gs k ++ rowF gs k) := fun _ => rfl
  obtain ⟨f, hf⟩ : ∃ f, flG gs = f := ⟨_, rfl⟩
  have HF0 : Hid (f 0 = []) := by show _ = _; rw [← hf]; rfl
  rw [hf] at HLen HFl ⊢
  obtain ⟨n, hn⟩ : ∃ n, gs.length = n := ⟨_, rfl⟩
  rw [hn] at HLen HRow HRl hn16 hn1 ⊢
  obtain ⟨a, ha⟩ : ∃ a, (rowF gs 0).length = a := ⟨_, rfl⟩
  rw [ha] at HLen HRl hw16 hw1
  clear hv ho hrow V hf hn ha hbl
  go_enter Tryd.func56, Tryd.ntmps56
  go_wp2
  go_loopw [3, 4] (fun v yv wr => ∃ y : Nat, y ≤ n ∧ yv = .int .i64 y ∧ (∃ g cap, v = .slice (some ⟨g, 0, none⟩) (f y).length cap) ∧ OwnN wr w.heap.size v (f y) ∧ Below w.heap.size w wr) (fun _ yv _ => n - (intOf yv).toNat)
  case atStart =>
    refine ⟨0, Nat.zero_le _, rfl, ⟨w.heap.size, 0, by rw [HF0.out]; rfl⟩, ?_, Joins.below_alloc1 _ _⟩
    rw [HF0.out]
    exact World.ownsRow_lit (base := w.heap.size) (e := 2) (size := 1) w #[] 0 (Nat.le_refl _) (by unfold maxLen; omega) rfl
  case round =>
    obtain ⟨y, hy, rfl, ⟨g, cap2, rfl⟩, hown, hbel⟩ := hrel
    by_cases hlt : y < n
    · have kyn : (y : Int) < (n : Int) := by omega
      obtain ⟨b2, o2, cy, hc, hcs⟩ := HRow.out wr hbel y hlt
      have hl1 := HLen.out y hy
      have hl2 := HLen.out (y + 1) hlt
      have hr := HRl.out y hlt
      have hya : y * a ≤ 16 * 16 := Nat.mul_le_mul (by omega) hw16
      have hs1 := hbel.size
      obtain ⟨R, hR⟩ : ∃ R, rowF gs y = R := ⟨_, rfl⟩
      rw [hR] at hc hcs hr
      obtain ⟨L, hL⟩ : ∃ L, f y = L := ⟨_, rfl⟩
      rw [hL] at hown hl1
      have HSn : Hid (f (y + 1) = L ++ R) := by show _ = _; rw [HFl.out, hL, hR]
      have hM1 : L.length ≤ 300 := by omega
      have hM2 : R.length ≤ 16 := by omega
      have hM3 : 1 ≤ R.length := by omega
      have HNews : Hid (∀ j u, (numsV R)[j]? = some u → wr.cell? ((⟨b2, o2, none⟩ : Addr).add j) = some u) := fun j u hu => by
        unfold numsV at hu
        rw [List.getElem?_map, Option.map_eq_some_iff] at hu
        obtain ⟨z, hz, rfl⟩ := hu
        have hj := (List.getElem?_eq_some_iff.1 hz).1
        have hz' : R.getD j 0 = z := by rw [List.getD_eq_getElem?_getD, hz]; rfl
        have := hcs j hj
        rw [hz'] at this
        unfold Addr.add
        split
        · rename_i h0
          subst h0
          exact this
        · exact this
      have HOne : Hid (∀ u ∈ numsV R, u.oneCell' = true) := fun u hu => by
        unfold numsV at hu
        obtain ⟨z, _, rfl⟩ := List.mem_map.1 hu
        rfl
      have HLn : Hid ((numsV R).length = R.length * 1) := by show _ = _; rw [Nat.mul_one]; simp [numsV]
      have HO := Lib.hid hown
      have HB := Lib.hid hbel
      rw [hL]
      clear hown hbel hcs hL hR hl2 hl1 hr
      go_wp2_with (at_builtin; refine wpList_append_own _ rfl _ _ 75 rfl w.heap.size 2 i0 (.int .i64 0) 1 8 Tryd.underlying75 hi hz0 hz1 hz2 rfl (by decide) _ _ _ rfl HO.out ⟨b2, o2, none⟩ R.length cy (numsV R) rfl HLn.out HNews.out HOne.out (by unfold maxLen; omega) (by omega) hs1 ?_)
      intro v' w2 hown' hgr _
      have B2 : Hid (Below w.heap.size w w2) := HB.out.grown hgr hs1 (fun k hk => (HO.out.lt k hk).1)
      have O2 : Hid (OwnN w2 w.heap.size v' (f (y + 1))) := by
        show OwnN _ _ _ _
        unfold OwnN
        rw [HSn.out, List.length_append, show numsV (L ++ R) = numsV L ++ numsV R from by simp [numsV]]
        exact hown'
      have HL2 : Hid ((f (y + 1)).length = L.length + R.length) := by show _ = _; rw [HSn.out, List.length_append]
      obtain ⟨g', c', rfl⟩ := Joins.ownsRow_form hown' (by omega)
      clear hown' hgr
      go_wp2
      go_roundw
      case rel => exact ⟨y + 1, by omega, by go_num, ⟨_, _, by rw [HL2.out]⟩, O2.out, B2.out⟩
      case measure => simp [intOf]; omega
    · obtain rfl : y = n := by omega
      have HO := Lib.hid hown
      have HB := Lib.hid hbel
      clear hown hbel
      go_wp2_with fail
      go_ret
      exact ⟨_, _, rfl, HO.out, HB.out⟩
end Go.Proofs.YthkmfiipmhlbjaaDoor

/- Contracts of single functions, and plain lemmas, on which the exact laws of this seat rest; each holds under the conditions that it states. -/
namespace Go.Proofs.YthkmfiipmhlbjaaDoor
set_option linter.unusedVariables false
set_option linter.unusedSimpArgs false
open Go.RowKit

/-! ### the picture of what is at least a level -/
def thF (gs : List (List Int)) (lv : Int) (y x : Nat) : Bool := decide (lv ≤ (rowF gs y).getD x 0)
/-- the first k numbers that are at least a level -/
def thB (L : List Int) (lv : Int) (k : Nat) : List Bool := (List.range k).map fun j => decide (lv ≤ L.getD j 0)
theorem thB_len (L : List Int) (lv : Int) (k : Nat) : (thB L lv k).length = k := by simp [thB]
theorem thB_snoc (L : List Int) (lv : Int) (k : Nat) : boolV (thB L lv (k + 1)) = boolV (thB L lv k) ++ [.bool (decide (lv ≤ L.getD k 0))] := by
  simp [thB, boolV, List.range_succ]
theorem thB_pic {m : Int} {gs : List (List Int)} (V : VG m gs) (lv : Int) : mkPic (rowF gs 0).length gs.length (fun y x => (thB (flG gs gs.length) lv ((rowF gs 0).length * gs.length)).getD (y * (rowF gs 0).length + x) false) = mkPic (rowF gs 0).length gs.length (thF gs lv) :=
  mkPic_congr fun y hy x hx => by
    have : (y + 1) * (rowF gs 0).length ≤ gs.length * (rowF gs 0).length := Nat.mul_le_mul hy (Nat.le_refl _)
    rw [Nat.add_mul, Nat.one_mul, Nat.mul_comm gs.length] at this
    have hlt : y * (rowF gs 0).length + x < (rowF gs 0).length * gs.length := by omega
    rw [List.getD_eq_getElem?_getD]
    unfold thB thF
    rw [List.getElem?_map, List.getElem?_range hlt]
    show decide (lv ≤ (flG gs gs.length).getD (y * (rowF gs 0).length + x) 0) = _
    rw [flG_at V y x hx gs.length (Nat.le_refl _) hy]
theorem own_ne2 {w : World} {base n : Nat} {e t : TypeId} {s P : Nat} {v : Value} {xs : List Value} {cs : Array Value} {o : Nat × Nat} (h : w.ownsRow base e s v n xs) (hP : w.heap[P]? = some (.cells cs t o)) (he : t ≠ e) : v.ownBlock ≠ some P := by
  rcases h.2 with ⟨hv, _⟩ | ⟨g, cap, cur, hv, _, hg, _⟩
  · subst hv; simp [Value.ownBlock]
  · subst hv
    simp only [Value.ownBlock]
    intro e1
    have e1 := Option.some.inj e1
    subst e1
    rw [hg] at hP
    injection hP with hP
    injection hP with _ h2
    exact he h2.symm
/-- a row of numbers, by its block alone -/
theorem OwnN.blk {w : World} {base g cap : Nat} {ns : List Int} (h : OwnN w base (.slice (some ⟨g, 0, none⟩) ns.length cap) ns) : ∃ (cur : Array Value) (o : Nat × Nat), w.heap[g]? = some (.cells cur 2 o) ∧ ∀ j, j < ns.length → cur[j]? = some (.int .i64 (ns.getD j 0)) := by
  have hcell : ∀ j, j < ns.length → w.cell? ⟨g, j, none⟩ = some (.int .i64 (ns.getD j 0)) := fun j hj => by
    have := World.ownsRow.cellAt (h : w.ownsRow base 2 1 _ ns.length (numsV ns)) j (by omega)
    rw [this]
    unfold numsV
    rw [List.getElem?_map, List.getElem?_eq_getElem hj, List.getD_eq_getElem?_getD, List.getElem?_eq_getElem hj]
    rfl
  rcases h.2 with ⟨hv, _⟩ | ⟨g2, cap2, cur, hv, _, hg, _⟩
  · cases hv
  · injection hv with hv
    obtain rfl : g = g2 := by injection hv with hv; injection hv
    refine ⟨cur, _, hg, fun j hj => ?_⟩
    have := hcell j hj
    rw [Joins.cell_of_block hg j] at this
    exact this

theorem l07Width_any {m : Int} (pb : Nat) (v : Value) (gs : List (List Int)) (w : World) (V : VG m gs) (hp : w.cell? ⟨pb, 0, none⟩ = some v) (hv : SlG w v gs) :
    Calls Tryd.prog 58 #[.pointer (some ⟨pb, 0, none⟩)] w (fun e w' => e = .returned (.int .i64 (rowF gs 0).length) ∧ w = w') := by
  obtain ⟨ao, cap, rfl, ho⟩ := hv.open'
  obtain ⟨b, off, rfl, hbl, hrow⟩ := ho V.n1
  obtain ⟨ay, cy, h1, _, _⟩ := hrow 0 V.n1
  have h1 : w.cell? ⟨b, off, none⟩ = some (.slice ay (rowF gs 0).length cy) := h1
  have hn1 := V.n1
  obtain ⟨n, hn⟩ : ∃ n, gs.length = n := ⟨_, rfl⟩
  rw [hn] at hp hn1
  obtain ⟨a, ha⟩ : ∃ a, (rowF gs 0).length = a := ⟨_, rfl⟩
  rw [ha] at h1 ⊢
  have kn : (0 : Int) < (n : Int) := by omega
  clear hv ho hrow V hn ha
  go_enter Tryd.func58, Tryd.ntmps58
  go_wp2
  go_ret
  exact ⟨rfl, rfl⟩
end Go.Proofs.YthkmfiipmhlbjaaDoor
