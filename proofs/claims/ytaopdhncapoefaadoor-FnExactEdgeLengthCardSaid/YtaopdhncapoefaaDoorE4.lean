/- Contracts of single functions, and plain lemmas, on which the exact laws of this seat rest; each holds under the conditions that it states. -/
import Derived.Test.YtaopdhncapoefaaDoorCc
import Derived.Test.YtaopdhncapoefaaDoorPb
import Derived.Test.YtaopdhncapoefaaDoorOa
namespace Go.Proofs.YtaopdhncapoefaaDoor
set_option linter.unusedVariables false
set_option linter.unusedSimpArgs false
open Go.RowKit

theorem eqE_yes {a b : Int} (h : a = b) : (a == b) = true := beq_iff_eq.2 h
theorem eqE_no {a b : Int} (h : a ≠ b) : (a == b) = false := by simpa using h
theorem l04X_anyE (d : Int) (w : World) : Calls Tryd.prog 33 #[.int .i64 d] w fun e w' => e = .returned (.int .i64 (dX d)) ∧ w = w' := by
  by_cases h0 : d = 0
  · have hb := eqE_yes h0
    have HW : Hid (dX d = 1) := by show _ = _; unfold dX; rw [if_pos h0]
    clear h0
    go_enter Tryd.func33, Tryd.ntmps33
    go_wp2
    go_ret
    exact ⟨ret_int HW.out.symm, rfl⟩
  · have hb := eqE_no h0
    by_cases h2 : d = 2
    · have hb2 := eqE_yes h2
      have HW : Hid (dX d = -1) := by show _ = _; unfold dX; rw [if_neg h0, if_pos h2]
      clear h0 h2
      go_enter Tryd.func33, Tryd.ntmps33
      go_wp2
      go_ret
      exact ⟨ret_int HW.out.symm, rfl⟩
    · have hb2 := eqE_no h2
      have HW : Hid (dX d = 0) := by show _ = _; unfold dX; rw [if_neg h0, if_neg h2]
      clear h0 h2
      go_enter Tryd.func33, Tryd.ntmps33
      go_wp2
      go_ret
      exact ⟨ret_int HW.out.symm, rfl⟩
theorem l04Y_anyE (d : Int) (w : World) : Calls Tryd.prog 34 #[.int .i64 d] w fun e w' => e = .returned (.int .i64 (dY d)) ∧ w = w' := by
  by_cases h0 : d = 1
  · have hb := eqE_yes h0
    have HW : Hid (dY d = 1) := by show _ = _; unfold dY; rw [if_pos h0]
    clear h0
    go_enter Tryd.func34, Tryd.ntmps34
    go_wp2
    go_ret
    exact ⟨ret_int HW.out.symm, rfl⟩
  · have hb := eqE_no h0
    by_cases h2 : d = 3
    · have hb2 := eqE_yes h2
      have HW : Hid (dY d = -1) := by show _ = _; unfold dY; rw [if_neg h0, if_pos h2]
      clear h0 h2
      go_enter Tryd.func34, Tryd.ntmps34
      go_wp2
      go_ret
      exact ⟨ret_int HW.out.symm, rfl⟩
    · have hb2 := eqE_no h2
      have HW : Hid (dY d = 0) := by show _ = _; unfold dY; rw [if_neg h0, if_neg h2]
      clear h0 h2
      go_enter Tryd.func34, Tryd.ntmps34
      go_wp2
      go_ret
      exact ⟨ret_int HW.out.symm, rfl⟩


/-- a sum -/
def sm : Nat → (Nat → Nat) → Nat
  | 0, _ => 0
  | n + 1, f => sm n f + f n
theorem sm_le {f : Nat → Nat} {c : Nat} (h : ∀ i, f i ≤ c) : ∀ n, sm n f ≤ n * c
  | 0 => Nat.zero_le _
  | n + 1 => by
    have h1 := sm_le h n
    have h2 := h n
    show sm n f + f n ≤ _
    rw [Nat.add_mul, Nat.one_mul]
    omega
theorem sm_congr {f g : Nat → Nat} : ∀ n, (∀ i, i < n → f i = g i) → sm n f = sm n g
  | 0, _ => rfl
  | n + 1, h => by
    show sm n f + f n = sm n g + g n
    rw [sm_congr n (fun i hi => h i (by omega)), h n (by omega)]
theorem sm_zero {f : Nat → Nat} (n : Nat) (h : ∀ i, i < n → f i = 0) : sm n f = 0 := by
  rw [sm_congr n h]
  have := sm_le (f := fun _ => 0) (c := 0) (fun _ => Nat.le_refl _) n
  omega
theorem sm_add (f g : Nat → Nat) : ∀ n, sm n (fun i => f i + g i) = sm n f + sm n g
  | 0 => rfl
  | n + 1 => by
    show sm n _ + (f n + g n) = (sm n f + f n) + (sm n g + g n)
    rw [sm_add f g n]
    omega
theorem sm_shift (f : Nat → Nat) : ∀ n, sm (n + 1) f = f 0 + sm n (fun i => f (i + 1))
  | 0 => by show 0 + f 0 = f 0 + 0; omega
  | n + 1 => by
    show sm (n + 1) f + f (n + 1) = f 0 + (sm n _ + f (n + 1))
    rw [sm_shift f n]
    omega

/-- the sides of a pixel that are of the edges -/
def eV (p : Int → Int → Bool) (x y : Nat) (k : Nat) : Nat := if p x y && !p ((x : Int) + dX k) ((y : Int) + dY k) then 1 else 0
def ePix (p : Int → Int → Bool) (y x : Nat) : Nat := sm 4 (eV p x y)
def eRow (p : Int → Int → Bool) (a y : Nat) : Nat := sm a (ePix p y)
def eAll (p : Int → Int → Bool) (a b : Nat) : Nat := sm b (eRow p a)
theorem eV_le (p : Int → Int → Bool) (x y k : Nat) : eV p x y k ≤ 1 := by unfold eV; split <;> omega
theorem ePix_le (p : Int → Int → Bool) (y x : Nat) : ePix p y x ≤ 4 := sm_le (fun k => eV_le p x y k) 4
theorem eRow_le (p : Int → Int → Bool) (a y : Nat) : eRow p a y ≤ a * 4 := sm_le (fun x => ePix_le p y x) a
def esV (ss : List ByteArray) : Int := if validB ss then ((eAll (pixI ss) (row0 ss).size ss.length : Nat) : Int) else 0
theorem eq3 {a b c : Int} (h : (4 : Int) ≤ 3) : a = b := by omega

set_option maxHeartbeats 4000000 in
set_option maxRecDepth 100000 in
theorem spec_Edge (v : Value) (ss : List ByteArray) (w : World) (hN : ss.length ≤ maxLen) (hz : ∀ s ∈ ss, s.size ≤ maxLen) (hv : Sl w v ss) :
    Calls Tryd.prog 8 #[.agg #[v]] w (SaysIB (esV ss) (validB ss) w) := by
  have hb0 := Joins.below_alloc1 w (.cells #[v] 28)
  have hc0 : (w.alloc (.cells #[v] 28)).cell? ⟨w.heap.size, 0, none⟩ = some v := by rw [World.cell?_alloc_mark]; rfl
  have C := Lib.hid (l01Is_any w.heap.size 0 v ss (w.alloc (.cells #[v] 28)) hc0 (hv.below hb0) hN hz)
  cases hok : validB ss with
  | false =>
    have e1 : Hid (esV ss = 0) := by show esV ss = _; unfold esV; rw [hok]; rfl
    have HOk := Lib.hid hok
    clear hok hv hc0 hb0
    go_enter Tryd.func8, Tryd.ntmps8
    go_wp2_with fail
    refine C.out.mono ?_
    rintro e w' ⟨rfl, hb⟩
    rw [HOk.out]
    have HB := Lib.hid hb
    clear hb
    go_wp2_with fail
    go_ret2
    exact ⟨ret_ib e1.out.symm rfl, (Joins.below_alloc1 w _).trans (HB.out.mono (by simp))⟩
  | true =>
    have V := vp_of hok
    have hn16 := V.n16
    have hw16 := V.w16
    have hp : ∀ W, Below (w.alloc (.cells #[v] 28)).heap.size (w.alloc (.cells #[v] 28)) W → PicAt W w.heap.size 0 ss := fun W hb =>
      ⟨hok, v, cell_kept hb hc0, (hv.below hb0).below hb⟩
    have HOk := Lib.hid hok
    have e1 : Hid (esV ss = ((eAll (pixI ss) (row0 ss).size ss.length : Nat) : Int)) := by show esV ss = _; unfold esV; rw [hok]; rfl
    clear hok hv hc0 V
    go_enter Tryd.func8, Tryd.ntmps8
    go_wp2_with fail
    refine C.out.mono ?_
    rintro e w1 ⟨rfl, hb⟩
    rw [HOk.out]
    have hp1 := hp w1 hb
    have HB := Lib.hid (hb0.trans (hb.mono (by simp)))
    clear hb hb0 hp C
    have CH := Lib.hid (l01Height_any w.heap.size 0 ss w1 hp1)
    have CW := Lib.hid (l01Width_any w.heap.size 0 ss w1 hp1)
    have CB := Lib.hid (fun x y => l01Black_any w.heap.size 0 ss x y w1 hp1)
    obtain ⟨p, hpp⟩ : ∃ p, pixI ss = p := ⟨_, rfl⟩
    rw [hpp] at CB e1
    obtain ⟨a, ha⟩ : ∃ a, (row0 ss).size = a := ⟨_, rfl⟩
    obtain ⟨b, hbb⟩ : ∃ a, ss.length = a := ⟨_, rfl⟩
    rw [ha] at e1 hw16 CW
    rw [hbb] at e1 hn16 CH
    have HL1 := Lib.hid (fun y => sm_le (f := eRow p a) (c := 64) (fun i => Nat.le_trans (eRow_le p a i) (by omega)) y)
    have HL2 := Lib.hid (fun y x => sm_le (f := ePix p y) (c := 4) (fun i => ePix_le p y i) x)
    have HL3 := Lib.hid (fun y x k => sm_le (f := eV p x y) (c := 1) (fun i => eV_le p x y i) k)
    have HX := Lib.hid (fun (k : Nat) W => l04X_anyE (k : Int) W)
    have HY := Lib.hid (fun (k : Nat) W => l04Y_anyE (k : Int) W)
    have HRX := Lib.hid (fun (k : Nat) => dX_range (k : Int))
    have HRY := Lib.hid (fun (k : Nat) => dY_range (k : Int))
    clear hpp ha hbb hp1 hN hz
    go_wp2_with fail
    go_loop [4, 5] (fun nv yv => ∃ y : Nat, y ≤ b ∧ yv = .int .i64 y ∧ nv = .int .i64 ((sm y (eRow p a) : Nat) : Int)) (fun _ yv => b - (intOf yv).toNat)
    case atStart => exact ⟨0, Nat.zero_le _, rfl, rfl⟩
    case round =>
      obtain ⟨y, hy, rfl, rfl⟩ := hrel
      go_wp2_with fail
      refine CH.out.mono ?_
      rintro e w2 ⟨rfl, rfl⟩
      by_cases hlt : y < b
      · have klt : (y : Int) < (b : Int) := by omega
        have hL1 := HL1.out y
        obtain ⟨n1, hn1⟩ : ∃ n, sm y (eRow p a) = n := ⟨_, rfl⟩
        rw [hn1] at hL1 ⊢
        have hn1b : n1 ≤ 1024 := by omega
        go_wp2_with fail
        go_loop [4, 6] (fun nv xv => ∃ x : Nat, x ≤ a ∧ xv = .int .i64 x ∧ nv = .int .i64 ((n1 : Int) + ((sm x (ePix p y) : Nat) : Int))) (fun _ xv => a - (intOf xv).toNat)
        case atStart => exact ⟨0, Nat.zero_le _, rfl, by show _ = Value.int .i64 ((n1 : Int) + 0); rw [Int.add_zero]⟩
        case round =>
          obtain ⟨x, hx, rfl, rfl⟩ := hrel
          go_wp2_with fail
          refine CW.out.mono ?_
          rintro e w2 ⟨rfl, rfl⟩
          by_cases hltx : x < a
          · have kltx : (x : Int) < (a : Int) := by omega
            have hL2 := HL2.out y x
            obtain ⟨n2, hn2⟩ : ∃ n, sm x (ePix p y) = n := ⟨_, rfl⟩
            rw [hn2] at hL2 ⊢
            have hn2b : n2 ≤ 64 := by omega
            go_wp2_with fail
            go_loop [4, 7] (fun nv kv => ∃ k : Nat, k ≤ 4 ∧ kv = .int .i64 k ∧ nv = .int .i64 ((n1 : Int) + (n2 : Int) + ((sm k (eV p x y) : Nat) : Int))) (fun _ kv => 4 - (intOf kv).toNat)
            case atStart => exact ⟨0, Nat.zero_le _, rfl, by show _ = Value.int .i64 ((n1 : Int) + (n2 : Int) + 0); rw [Int.add_zero]⟩
            case round =>
              obtain ⟨k, hk, rfl, rfl⟩ := hrel
              have hsn : sm (k + 1) (eV p x y) = sm k (eV p x y) + eV p x y k := rfl
              have hL3 := HL3.out y x k
              have hr1 := HRX.out k
              have hr2 := HRY.out k
              by_cases hk4 : k < 4
              · have kk : (k : Int) < 4 := by omega
                cases hpx : p (x : Int) (y : Int) with
                | false =>
                  have hz4 : ePix p y x = 0 := by
                    unfold ePix
                    exact sm_zero 4 fun i _ => by unfold eV; rw [hpx]; rfl
                  have hzk : sm k (eV p x y) = 0 := sm_zero k fun i _ => by unfold eV; rw [hpx]; rfl
                  have hsx : sm (x + 1) (ePix p y) = n2 := by show sm x (ePix p y) + ePix p y x = n2; rw [hn2, hz4, Nat.add_zero]
                  have HSx := Lib.hid hsx
                  have HPx := Lib.hid hpx
                  rw [hzk]
                  clear hsx hz4 hzk hpx hsn hL3
                  go_wp2_with fail
                  refine (CB.out _ _).mono ?_
                  rintro e w2 ⟨rfl, rfl⟩
                  rw [HPx.out]
                  go_wp2
                  go_round
                  case rel => exact ⟨x + 1, by omega, by go_num, by first | (rw [HSx.out]; done) | (rw [HSx.out]; go_num)⟩
                  case measure => simp [intOf]; omega
                | true =>
                  have HPx := Lib.hid hpx
                  obtain ⟨q, hq⟩ : ∃ q, p ((x : Int) + dX k) ((y : Int) + dY k) = q := ⟨_, rfl⟩
                  have HQ := Lib.hid hq
                  have hev : eV p x y k = if q then 0 else 1 := by unfold eV; rw [hpx, hq]; cases q <;> rfl
                  obtain ⟨n3, hn3⟩ : ∃ n, sm k (eV p x y) = n := ⟨_, rfl⟩
                  rw [hn3, hev] at hsn
                  rw [hn3] at hL3 ⊢
                  clear hev hpx hq
                  obtain ⟨dx, hdx⟩ : ∃ d, dX (k : Int) = d := ⟨_, rfl⟩
                  obtain ⟨dy, hdy⟩ : ∃ d, dY (k : Int) = d := ⟨_, rfl⟩
                  have HX' := HX.out k
                  have HY' := HY.out k
                  rw [hdx] at hr1 HX' HQ
                  rw [hdy] at hr2 HY' HQ
                  have HXk := Lib.hid HX'
                  have HYk := Lib.hid HY'
                  clear HX' HY' hdx hdy
                  have HSn := Lib.hid hsn
                  clear hsn
                  go_wp2_with fail
                  refine (CB.out _ _).mono ?_
                  rintro e w2 ⟨rfl, rfl⟩
                  rw [HPx.out]
                  go_wp2_with fail
                  refine (HXk.out _).mono ?_
                  rintro e w2 ⟨rfl, rfl⟩
                  go_wp2_with fail
                  refine (HYk.out _).mono ?_
                  rintro e w2 ⟨rfl, rfl⟩
                  go_wp2_with fail
                  refine (CB.out _ _).mono ?_
                  rintro e w2 ⟨rfl, rfl⟩
                  rw [HQ.out]
                  cases q with
                  | true =>
                    go_wp2
                    go_round
                    case rel => exact ⟨k + 1, by omega, by go_num, by first | (rw [HSn.out]; done) | (rw [HSn.out]; go_num)⟩
                    case measure => simp [intOf]; omega
                  | false =>
                    go_wp2
                    go_round
                    case rel => exact ⟨k + 1, by omega, by go_num, by first | (rw [HSn.out]; done) | (rw [HSn.out]; go_num)⟩
                    case measure => simp [intOf]; omega
              · obtain rfl : k = 4 := by omega
                have hsx : sm (x + 1) (ePix p y) = n2 + sm 4 (eV p x y) := by show sm x (ePix p y) + ePix p y x = _; rw [hn2]; rfl
                have HSx := Lib.hid hsx
                obtain ⟨n3, hn3⟩ : ∃ n, sm 4 (eV p x y) = n := ⟨_, rfl⟩
                rw [hn3] at hL3 HSx ⊢
                clear hsx hsn
                go_wp2
                go_round
                case rel => exact ⟨x + 1, by omega, by go_num, by first | (rw [HSx.out]; done) | (rw [HSx.out]; go_num)⟩
                case measure => simp [intOf]; omega
          · obtain rfl : x = a := by omega
            have kx : ¬ (x : Int) < (x : Int) := by omega
            have hsy : sm (y + 1) (eRow p x) = n1 + sm x (ePix p y) := by show sm y (eRow p x) + eRow p x y = _; rw [hn1]; rfl
            have HSy := Lib.hid hsy
            have hL2 := HL2.out y x
            obtain ⟨n2, hn2⟩ : ∃ n, sm x (ePix p y) = n := ⟨_, rfl⟩
            rw [hn2] at HSy hL2 ⊢
            clear hsy
            go_wp2
            go_round
            case rel => exact ⟨y + 1, by omega, by go_num, by first | (rw [HSy.out]; done) | (rw [HSy.out]; go_num)⟩
            case measure => simp [intOf]; omega
      · obtain rfl : y = b := by omega
        have ky : ¬ (y : Int) < (y : Int) := by omega
        have hea : eAll p a y = sm y (eRow p a) := rfl
        rw [← hea]
        have HE1 := Lib.hid (show ((eAll p a y : Nat) : Int) = esV ss from e1.out.symm)
        clear hea
        go_wp2
        go_ret2
        exact ⟨ret_ib HE1.out rfl, HB.out⟩
end Go.Proofs.YtaopdhncapoefaaDoor
