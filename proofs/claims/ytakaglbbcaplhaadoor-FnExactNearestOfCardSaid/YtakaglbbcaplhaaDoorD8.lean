/- Contracts of single functions, and plain lemmas, on which the exact laws of this seat rest; each holds under the conditions that it states. -/
import Derived.Test.YtakaglbbcaplhaaDoorD7
import Derived.Test.YtakaglbbcaplhaaDoorBl
namespace Go.Proofs.YtakaglbbcaplhaaDoor
set_option linter.unusedVariables false
set_option linter.unusedSimpArgs false
open Go.RowKit

/-! ### the nearest of some spots -/
abbrev NrT := (Int × Int) × Int
def nrS (k x y : Int) (s : NrT) (q : Int × Int) : NrT := if s.2 < 0 ∨ farI k x y q.1 q.2 < s.2 then (q, farI k x y q.1 q.2) else s
def nrL (k x y : Int) (L : List (Int × Int)) : NrT := L.foldl (nrS k x y) ((0, 0), -1)
theorem nrL_snoc (k x y : Int) (L : List (Int × Int)) (q : Int × Int) : nrL k x y (L ++ [q]) = nrS k x y (nrL k x y L) q := by simp [nrL]
theorem farI_range (k ax ay bx b_y : Int) (h1 : Small ax) (h2 : Small ay) (h3 : Small bx) (h4 : Small b_y) : 0 ≤ farI k ax ay bx b_y ∧ farI k ax ay bx b_y ≤ 20000 := by
  unfold Small at h1 h2 h3 h4
  have r1 := absI_range (ax - bx) (by omega)
  have r2 := absI_range (ay - b_y) (by omega)
  have s1 := sq_range _ r1
  have s2 := sq_range _ r2
  unfold farI
  split
  · omega
  · split <;> omega
def SmallL (L : List (Int × Int)) : Prop := ∀ q ∈ L, Small q.1 ∧ Small q.2
theorem nrL_range (k x y : Int) (hx : Small x) (hy : Small y) (L : List (Int × Int)) (hL : SmallL L) : (-1 ≤ (nrL k x y L).2 ∧ (nrL k x y L).2 ≤ 20000) ∧ Small (nrL k x y L).1.1 ∧ Small (nrL k x y L).1.2 := by
  have : ∀ (L : List (Int × Int)) (s : NrT), SmallL L → ((-1 ≤ s.2 ∧ s.2 ≤ 20000) ∧ Small s.1.1 ∧ Small s.1.2) → ((-1 ≤ (L.foldl (nrS k x y) s).2 ∧ (L.foldl (nrS k x y) s).2 ≤ 20000) ∧ Small (L.foldl (nrS k x y) s).1.1 ∧ Small (L.foldl (nrS k x y) s).1.2) := by
    intro L
    induction L with
    | nil => intro s _ h; exact h
    | cons q L ih =>
      intro s hL h
      rw [List.foldl_cons]
      refine ih _ (fun p hp => hL p (by simp [hp])) ?_
      have hq := hL q (by simp)
      have := farI_range k x y q.1 q.2 hx hy hq.1 hq.2
      unfold nrS
      split
      · exact ⟨⟨by show -1 ≤ farI k x y q.1 q.2; omega, this.2⟩, hq⟩
      · exact h
  exact this L _ hL ⟨by decide, by unfold Small; decide, by unfold Small; decide⟩
theorem spL_small (f : Nat → Nat → Bool) (wd h N : Nat) (hw : wd ≤ 16) (hw1 : 1 ≤ wd) (hN : N ≤ wd * h) (hh : h ≤ 16) : SmallL (spL f wd N) := by
  intro q hq
  unfold spL at hq
  rw [List.mem_filterMap] at hq
  obtain ⟨i, hi, he⟩ := hq
  rw [List.mem_range] at hi
  split at he
  · injection he with he
    subst he
    have h1 : i % wd < wd := Nat.mod_lt _ hw1
    have h2 : i / wd < h := (Nat.div_lt_iff_lt_mul hw1).2 (by rw [Nat.mul_comm]; omega)
    unfold Small
    show (-40 ≤ ((i % wd : Nat) : Int) ∧ ((i % wd : Nat) : Int) ≤ 40) ∧ -40 ≤ ((i / wd : Nat) : Int) ∧ ((i / wd : Nat) : Int) ≤ 40
    generalize i % wd = u at h1 ⊢
    generalize i / wd = v at h2 ⊢
    omega
  · cases he

theorem infoSp1 : (Tryd.prog.info? 31).map (·.size) = some 2 := by kernel_rfl
/-- a spot in a variable -/
def Var2 (W : World) (B : Nat) (q : Int × Int) : Prop := W.heap[B]? = some (.cells #[.int .i64 q.1, .int .i64 q.2] 31 (0, 0))
section
variable {W W' : World} {B : Nat} {q : Int × Int}
theorem Var2.lt (h : Var2 W B q) : B < W.heap.size := (Array.getElem?_eq_some_iff.1 h).1
theorem Var2.c0 (h : Var2 W B q) : W.cell? ⟨B, 0, none⟩ = some (.int .i64 q.1) := by rw [Joins.cell_of_block h 0]; rfl
theorem Var2.c1 (h : Var2 W B q) : W.cell? ⟨B, 1, none⟩ = some (.int .i64 q.2) := by rw [Joins.cell_of_block h 1]; rfl
theorem Var2.below (h : Var2 W B q) (hb : Below W.heap.size W W') : Var2 W' B q := (hb.block B h.lt).trans h
theorem Var2.upd (h : Var2 W B q) (a b : Int) : Var2 ((W.setCell ⟨B, 0, none⟩ (.int .i64 a)).setCell ⟨B, 1, none⟩ (.int .i64 b)) B (a, b) :=
  Joins.block_setCell (Joins.block_setCell h (.int .i64 a)) (.int .i64 b)
theorem two_free (h : Var2 W B q) (i : Nat) : W.frozen? ⟨B, i, none⟩ = false := Joins.unfrozen_of_block h i
theorem Var2.far (h : Var2 W B q) {C i : Nat} (hc : B ≠ C) (v : Value) : Var2 (W.setCell ⟨C, i, none⟩ v) B q := (Below.heap_setCell _ _ _ _ hc).trans h
end

set_option maxHeartbeats 4000000 in
set_option maxRecDepth 100000 in
theorem l06Nearest_any (pb po : Nat) (ss : List ByteArray) (k X Y : Int) (w : World) (hpa : PicAt w pb po ss) (hX : Small X) (hY : Small Y) :
    Calls Tryd.prog 102 #[.pointer (some ⟨pb, po, none⟩), .int .i64 k, .int .i64 X, .int .i64 Y] w (fun e w' => e = .returned (.tuple #[.agg #[.int .i64 (nrL k X Y (spL (pixF ss) (row0 ss).size ((row0 ss).size * ss.length))).1.1, .int .i64 (nrL k X Y (spL (pixF ss) (row0 ss).size ((row0 ss).size * ss.length))).1.2], .int .i64 (nrL k X Y (spL (pixF ss) (row0 ss).size ((row0 ss).size * ss.length))).2]) ∧ Below w.heap.size w w') := by
  obtain ⟨b0, off0, cap0, hcc, hst, V⟩ := hpa.open'
  have hw1 := V.w1
  have hw16 := V.w16
  have hn1 := V.n1
  have hn16 := V.n16
  have CW : Hid (∀ W, PicAt W pb po ss → Calls Tryd.prog 63 #[.pointer (some ⟨pb, po, none⟩)] W fun e w' => e = .returned (.int .i64 (row0 ss).size) ∧ W = w') := fun W h => l01Width_any _ _ ss W h
  have CH : Hid (∀ W, PicAt W pb po ss → Calls Tryd.prog 64 #[.pointer (some ⟨pb, po, none⟩)] W fun e w' => e = .returned (.int .i64 ss.length) ∧ W = w') := fun W h => l01Height_any _ _ ss W h
  have CB : Hid (∀ (x y : Nat) W, x < (row0 ss).size → y < ss.length → PicAt W pb po ss → Calls Tryd.prog 54 #[.pointer (some ⟨pb, po, none⟩), .int .i64 x, .int .i64 y] W fun e w' => e = .returned (.bool (pixF ss y x)) ∧ W = w') := fun x y W hx hy h => by
    have := l01Black_any _ _ ss (x : Int) (y : Int) W h
    unfold pixI at this
    rw [in_range hx hy] at this
    simpa [pixF] using this
  have CF : Hid (∀ (x y : Nat) W, x < (row0 ss).size → y < ss.length → Calls Tryd.prog 95 #[.int .i64 k, .int .i64 X, .int .i64 Y, .int .i64 x, .int .i64 y] W fun e w' => e = .returned (.int .i64 (farI k X Y x y)) ∧ W = w') := fun x y W h1 h2 => l06Far_any k X Y x y W hX hY (by unfold Small; omega) (by unfold Small; omega)
  obtain ⟨f, hf⟩ : ∃ f, pixF ss = f := ⟨_, rfl⟩
  rw [hf] at CB ⊢
  obtain ⟨wd, hwd⟩ : ∃ k, (row0 ss).size = k := ⟨_, rfl⟩
  obtain ⟨n, hnn⟩ : ∃ k, ss.length = k := ⟨_, rfl⟩
  rw [hwd] at CW CB CF hw1 hw16 ⊢
  rw [hnn] at CH CB CF hn1 hn16 ⊢
  have HPA := Lib.hid hpa
  have hlp : pb < w.heap.size := blk_lt hcc
  have HSm : Hid (∀ N, N ≤ wd * n → SmallL (spL f wd N)) := fun N hN => spL_small f wd n N hw16 hw1 hN hn16
  have HRg : Hid (∀ N, N ≤ wd * n → (-1 ≤ (nrL k X Y (spL f wd N)).2 ∧ (nrL k X Y (spL f wd N)).2 ≤ 20000)) := fun N hN => (nrL_range k X Y hX hY _ (HSm.out N hN)).1
  have HFr : Hid (∀ x y : Nat, x < wd → y < n → 0 ≤ farI k X Y x y ∧ farI k X Y x y ≤ 20000) := fun x y h1 h2 => farI_range k X Y x y hX hY (by unfold Small; omega) (by unfold Small; omega)
  obtain ⟨rx, hrx⟩ : ∃ g : Nat → NrT, ∀ N, nrL k X Y (spL f wd N) = g N := ⟨fun N => nrL k X Y (spL f wd N), fun _ => rfl⟩
  have HSt : Hid (∀ x y : Nat, x < wd → rx (y * wd + x + 1) = if f y x = true then nrS k X Y (rx (y * wd + x)) ((x : Int), (y : Int)) else rx (y * wd + x)) := fun x y h => by
    rw [← hrx, ← hrx, spL_snoc f wd y x h]
    split
    · rw [nrL_snoc]
    · rw [List.append_nil]
  have HR0 : Hid (rx 0 = ((0, 0), -1)) := by show _ = _; rw [← hrx]; rfl
  simp only [hrx] at HRg ⊢
  clear hcc hst V hpa hf hwd hnn hX hY HSm hrx
  go_enter Tryd.func102, Tryd.ntmps102
  go_wp2
  go_loopw [11, 12] (fun lv yv wr => ∃ y : Nat, y ≤ n ∧ yv = .int .i64 y ∧ lv = .int .i64 (rx (y * wd)).2 ∧ Var2 wr w.heap.size (0, 0) ∧ Var2 wr (w.heap.size + 1) (rx (y * wd)).1 ∧ Below w.heap.size w wr) (fun _ yv _ => n - (intOf yv).toNat)
  case atStart =>
    refine ⟨0, Nat.zero_le _, rfl, ?_, ?_, ?_, ?_⟩
    · rw [Nat.zero_mul, HR0.out]
    · exact (Below.heap_alloc _ _ _ (by simp)).trans (heap_alloc_last w _)
    · rw [Nat.zero_mul, HR0.out]
      exact heap_alloc2_new _ _ _
    · exact Joins.below_alloc2 _ _ _
  case round =>
    obtain ⟨y, hy, rfl, rfl, hv0, hv1, hbel⟩ := hrel
    have A0 := Lib.hid (HPA.out.below hbel)
    by_cases hlt : y < n
    · have kyn : (y : Int) < (n : Int) := by omega
      have HV0 := Lib.hid hv0
      have HV1 := Lib.hid hv1
      have HB := Lib.hid hbel
      clear hv0 hv1 hbel
      go_wp2_with fail
      refine (CH.out _ A0.out).mono ?_
      rintro e w' ⟨rfl, rfl⟩
      go_wp2_with fail
      go_loopw [11, 13] (fun lv xv wr => ∃ x : Nat, x ≤ wd ∧ xv = .int .i64 x ∧ lv = .int .i64 (rx (y * wd + x)).2 ∧ Var2 wr w.heap.size (0, 0) ∧ Var2 wr (w.heap.size + 1) (rx (y * wd + x)).1 ∧ Below w.heap.size w wr) (fun _ xv _ => wd - (intOf xv).toNat)
      case atStart => exact ⟨0, Nat.zero_le _, rfl, rfl, HV0.out, HV1.out, HB.out⟩
      case round =>
        clear HV0 HV1 HB A0
        obtain ⟨x, hx, rfl, rfl, hv0, hv1, hbel⟩ := hrel
        have A0 := Lib.hid (HPA.out.below hbel)
        by_cases hlt2 : x < wd
        · have kxw : (x : Int) < (wd : Int) := by omega
          have hst := HSt.out x y hlt2
          have cb := fun W => CB.out x y W hlt2 hlt
          have cf := fun W => CF.out x y W hlt2 hlt
          have hNle : y * wd + x + 1 ≤ wd * n := by
            have := Nat.mul_le_mul_right wd (show y + 1 ≤ n from hlt)
            rw [Nat.add_mul, Nat.one_mul, Nat.mul_comm n wd] at this
            omega
          have hrg := HRg.out (y * wd + x) (by omega)
          have hfr := HFr.out x y hlt2 hlt
          have hs1 := hbel.size
          cases hbt : f y x with
          | false =>
            rw [hbt, if_neg (by decide)] at hst
            rw [hbt] at cb
            have CBt := Lib.hid cb
            have HS : Hid (rx (y * wd + (x + 1)) = rx (y * wd + x)) := hst
            have HV0 := Lib.hid hv0
            have HV1 := Lib.hid hv1
            have HB := Lib.hid hbel
            clear hv0 hv1 hbel hst cb cf hbt hNle hrg hfr
            go_wp2_with fail
            refine (CW.out _ A0.out).mono ?_
            rintro e w' ⟨rfl, rfl⟩
            go_wp2_with fail
            refine (CBt.out _ A0.out).mono ?_
            rintro e w' ⟨rfl, rfl⟩
            go_wp2
            go_roundw
            case rel => exact ⟨x + 1, by omega, by go_num, by rw [HS.out], HV0.out, by rw [HS.out]; exact HV1.out, HB.out⟩
            case measure => simp [intOf]; omega
          | true =>
            rw [hbt, if_pos rfl] at hst
            rw [hbt] at cb
            have CBt := Lib.hid cb
            have CFt := Lib.hid cf
            have hss : rx (y * wd + (x + 1)) = nrS k X Y (rx (y * wd + x)) ((x : Int), (y : Int)) := hst
            obtain ⟨s, hs⟩ : ∃ s, rx (y * wd + x) = s := ⟨_, rfl⟩
            obtain ⟨d, hd⟩ : ∃ d, farI k X Y x y = d := ⟨_, rfl⟩
            rw [hs] at hss hv1 hrg ⊢
            have hn : nrS k X Y s ((x : Int), (y : Int)) = if s.2 < 0 ∨ d < s.2 then (((x : Int), (y : Int)), d) else s := by unfold nrS; rw [← hd]
            rw [hd] at CFt hfr
            rw [hn] at hss
            obtain ⟨⟨p, q⟩, l⟩ := s
            have HS := Lib.hid hss
            have hv1c0 := hv1.c0
            have hv1c1 := hv1.c1
            have hv1f0 : wr.frozen? ⟨w.heap.size + 1, 0, none⟩ = false := two_free hv1 0
            have hv1f1 : wr.frozen? ⟨w.heap.size + 1, 1, none⟩ = false := two_free hv1 1
            have HV0 := Lib.hid hv0
            have HV1 := Lib.hid hv1
            have HB := Lib.hid hbel
            have hrg' : -1 ≤ l ∧ l ≤ 20000 := hrg
            clear hv0 hv1 hbel hst cb cf hbt hNle hrg hss hn hd hs
            go_wp2_with fail
            refine (CW.out _ A0.out).mono ?_
            rintro e w' ⟨rfl, rfl⟩
            go_wp2_with fail
            refine (CBt.out _ A0.out).mono ?_
            rintro e w' ⟨rfl, rfl⟩
            go_wp2_with fail
            refine (CFt.out _).mono ?_
            rintro e w' ⟨rfl, rfl⟩
            by_cases hc : l < 0 ∨ d < l
            · have HS2 : Hid (rx (y * wd + (x + 1)) = (((x : Int), (y : Int)), d)) := by show _ = _; rw [HS.out]; exact if_pos hc
              clear HS
              by_cases hl : l < 0
              · clear hc
                go_wp2
                go_roundw
                case rel => exact ⟨x + 1, by omega, by go_num, by rw [HS2.out], (HV0.out.far (by omega) _).far (by omega) _, by rw [HS2.out]; exact HV1.out.upd _ _, (HB.out.setCell (p := ⟨w.heap.size + 1, 0, none⟩) (by simp) _).setCell (p := ⟨w.heap.size + 1, 1, none⟩) (by simp) _⟩
                case measure => simp [intOf]; omega
              · have hd : d < l := by omega
                clear hc
                go_wp2
                go_roundw
                case rel => exact ⟨x + 1, by omega, by go_num, by rw [HS2.out], (HV0.out.far (by omega) _).far (by omega) _, by rw [HS2.out]; exact HV1.out.upd _ _, (HB.out.setCell (p := ⟨w.heap.size + 1, 0, none⟩) (by simp) _).setCell (p := ⟨w.heap.size + 1, 1, none⟩) (by simp) _⟩
                case measure => simp [intOf]; omega
            · have HS2 : Hid (rx (y * wd + (x + 1)) = ((p, q), l)) := by show _ = _; rw [HS.out]; exact if_neg hc
              have hc1 : ¬ l < 0 := fun h => hc (Or.inl h)
              have hc2 : ¬ d < l := fun h => hc (Or.inr h)
              clear HS hc
              go_wp2
              go_roundw
              case rel => exact ⟨x + 1, by omega, by go_num, by rw [HS2.out], HV0.out, by rw [HS2.out]; exact HV1.out, HB.out⟩
              case measure => simp [intOf]; omega
        · obtain rfl : x = wd := by omega
          have e1 : y * x + x = (y + 1) * x := by rw [Nat.add_mul, Nat.one_mul]
          rw [e1] at hv1
          have HV0 := Lib.hid hv0
          have HV1 := Lib.hid hv1
          have HB := Lib.hid hbel
          have HE := Lib.hid e1
          clear hv0 hv1 hbel e1
          go_wp2_with fail
          refine (CW.out _ A0.out).mono ?_
          rintro e w' ⟨rfl, rfl⟩
          go_wp2
          go_roundw
          case rel => exact ⟨y + 1, hlt, by go_num, by rw [HE.out], HV0.out, HV1.out, HB.out⟩
          case measure => simp [intOf]; omega
    · obtain rfl : y = n := by omega
      have HE := Lib.hid (Nat.mul_comm wd y)
      have hv1c0 := hv1.c0
      have hv1c1 := hv1.c1
      have hv0c0 := hv0.c0
      have hv0c1 := hv0.c1
      have hv0f0 : wr.frozen? ⟨w.heap.size, 0, none⟩ = false := two_free hv0 0
      have hv0f1 : wr.frozen? ⟨w.heap.size, 1, none⟩ = false := two_free hv0 1
      have HB := Lib.hid hbel
      have HV0 := Lib.hid hv0
      clear hv0 hv1 hbel
      go_wp2_with fail
      refine (CH.out _ A0.out).mono ?_
      rintro e w' ⟨rfl, rfl⟩
      go_wp2
      rw [HE.out]
      exact bodyPost_ret (results_cell_tmp Tryd.results102 _ _ w.heap.size 31 _ (0, 0) _ rfl (HV0.out.upd _ _) Tryd.underlying31 rfl infoSp1) rfl ⟨rfl, (HB.out.setCell (p := ⟨w.heap.size, 0, none⟩) (by simp) _).setCell (p := ⟨w.heap.size, 1, none⟩) (by simp) _⟩
end Go.Proofs.YtakaglbbcaplhaaDoor
