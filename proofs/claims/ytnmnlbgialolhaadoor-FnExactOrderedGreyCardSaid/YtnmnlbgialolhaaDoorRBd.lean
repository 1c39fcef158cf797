/- Contracts of single functions, and plain lemmas, on which the exact laws of this seat rest; each holds under the conditions that it states. -/
import Derived.Test.YtnmnlbgialolhaaDoorRBb
import Derived.Test.YtnmnlbgialolhaaDoorGP
import Derived.Test.YtnmnlbgialolhaaDoorGOc
import Derived.Test.YtnmnlbgialolhaaDoorGD
import Derived.Test.YtnmnlbgialolhaaDoorCc
namespace Go.Proofs.YtnmnlbgialolhaaDoor
set_option linter.unusedVariables false
set_option linter.unusedSimpArgs false
open Go.RowKit Go.Shelf
attribute [local go_sem] Oper.semAt_some

def gF (gs : List (List Int)) (y x : Nat) : Int := (rowF gs y).getD x 0
/-- the rows in memory, whatever variable is laid behind them -/
theorem gAt_of {m : Int} {w : World} {v : Value} {gs : List (List Int)} (V : VG m gs) (hv : SlG w v gs) : ∃ b off cap bb oo cc, v = .slice (some ⟨b, off, none⟩) gs.length cap ∧
    ∀ lb, w.heap.size ≤ lb → GAt w b off gs.length (rowF gs 0).length bb oo cc (gF gs) lb := by
  obtain ⟨ao, cap, rfl, ho⟩ := hv.open'
  obtain ⟨b, off, rfl, hb, hrow⟩ := ho V.n1
  have hc : ∀ y, ∃ q : Nat × Nat × Nat, y < gs.length → w.cell? ⟨b, off + y, none⟩ = some (.slice (some ⟨q.1, q.2.1, none⟩) (rowF gs 0).length q.2.2) ∧ q.1 < w.heap.size ∧ ∀ j, j < (rowF gs 0).length → w.cell? ⟨q.1, q.2.1 + j, none⟩ = some (.int .i64 (gF gs y j)) := fun y => by
    by_cases hy : y < gs.length
    · obtain ⟨ay, cy, h1, _, h3⟩ := hrow y hy
      have hl := V.len y hy
      have hw1 := V.w1
      obtain ⟨b2, o2, rfl, h4, h5⟩ := h3 (by omega)
      rw [hl] at h1 h5
      exact ⟨(b2, o2, cy), fun _ => ⟨h1, h4, h5⟩⟩
    · exact ⟨(0, 0, 0), fun h => absurd h hy⟩
  refine ⟨b, off, cap, fun y => (Classical.choose (hc y)).1, fun y => (Classical.choose (hc y)).2.1, fun y => (Classical.choose (hc y)).2.2, rfl, fun lb hl => ⟨by omega, fun y hy => ?_, fun y hy => ?_, fun y hy x hx => ?_⟩⟩
  · have := (Classical.choose_spec (hc y) hy).2.1
    omega
  · exact (Classical.choose_spec (hc y) hy).1
  · exact (Classical.choose_spec (hc y) hy).2.2 x hx
/-- the sum of the first numbers in reading order -/
def sumK (F : Nat → Nat → Int) (a : Nat) : Nat → Int
  | 0 => 0
  | k + 1 => sumK F a k + F (k / a) (k % a)
def sumP {a n : Nat} (F : Nat → Nat → Int) (pre : List { q : Int × Int // InG a n q }) : Int := (pre.map fun x => F x.1.2.toNat x.1.1.toNat).sum
theorem sumP_snoc {a n : Nat} (F : Nat → Nat → Int) (pre : List { q : Int × Int // InG a n q }) (x : { q : Int × Int // InG a n q }) : sumP F (pre ++ [x]) = sumP F pre + F x.1.2.toNat x.1.1.toNat := by
  unfold sumP
  rw [List.map_append, List.sum_append]
  simp
theorem sumP_bd {a n : Nat} {F : Nat → Nat → Int} (hF : ∀ y, y < n → ∀ x, x < a → 0 ≤ F y x ∧ F y x ≤ 99) : ∀ pre : List { q : Int × Int // InG a n q }, 0 ≤ sumP F pre ∧ sumP F pre ≤ (pre.length : Int) * 99
  | [] => by simp [sumP]
  | q :: t => by
    have ih := sumP_bd hF t
    have hin := q.2
    unfold InG at hin
    have h1 := hF q.1.2.toNat (by omega) q.1.1.toNat (by omega)
    have e : sumP F (q :: t) = F q.1.2.toNat q.1.1.toNat + sumP F t := by unfold sumP; simp
    rw [e, List.length_cons]
    push_cast
    omega
theorem sumP_grid (F : Nat → Nat → Int) (a n : Nat) (ha : 0 < a) (hn : 0 < n) : ∀ k, k ≤ n * a → sumP F ((gGrid a n ha hn).list k) = sumK F a k
  | 0, _ => rfl
  | k + 1, hk => by
    rw [Grid.list_snoc, sumP_snoc, sumP_grid F a n ha hn k (by omega)]
    have d : k / a < n := Nat.div_lt_of_lt_mul (by rw [Nat.mul_comm]; omega)
    have hx : ((gGrid a n ha hn).at k).1 = (((k % a : Nat) : Int), ((k / a : Nat) : Int)) := by
      refine Prod.ext ?_ ?_
      · show ((k % a : Nat) : Int) - ((0 : Nat) : Int) = _
        simp
      · show ((k / a % n : Nat) : Int) - ((0 : Nat) : Int) = _
        rw [Nat.mod_eq_of_lt d]
        simp
    rw [hx]
    rfl
theorem calls_items : ∀ args (W : World), (callFunc 74 args).run Tryd.prog W = .ok (.enter 74 args) W := enters_of Tryd.func74 (by kernel_rfl) rfl

set_option maxRecDepth 100000 in
set_option maxHeartbeats 4000000 in
theorem sumOf_any (v : Value) (gs : List (List Int)) (w : World) (V : VG 99 gs) (hv : SlG w v gs) :
    Calls Tryd.prog 70 #[v] w (fun e w' => e = .returned (.int .i64 (sumK (gF gs) (rowF gs 0).length (gs.length * (rowF gs 0).length))) ∧ Below w.heap.size w w') := by
  have hmf : ∀ (fn : Fn) (first cap : Array Value) (w : World), (Instr.makeFunc fn first cap).run Tryd.prog w = .ok (.func fn first cap) w := fun _ _ _ _ => rfl
  refine (callsIn_wide (n := 7)).1 ?_
  have hF : ∀ y, y < gs.length → ∀ x, x < (rowF gs 0).length → 0 ≤ gF gs y x ∧ gF gs y x ≤ 99 := V.num
  have hG2 := sumP_grid (gF gs) (rowF gs 0).length gs.length V.w1 V.n1 _ (Nat.le_refl _)
  obtain ⟨b, off, cap, bb, oo, cc, rfl, hG⟩ := gAt_of V hv
  have hb0 := Joins.below_alloc1 w (.cells #[.int .i64 0] 2)
  have hp0 := heap_alloc_last w (.cells #[.int .i64 0] 2)
  obtain ⟨W0, hW0⟩ : ∃ W0, w.alloc (.cells #[.int .i64 0] 2) = W0 := ⟨_, rfl⟩
  rw [hW0] at hb0 hp0
  have hs0 : W0.heap.size = w.heap.size + 1 := by rw [← hW0]; simp
  have hS : SeqB 6 Tryd.prog 74 #[.slice (some ⟨b, off, none⟩) gs.length cap] #[] (encG (a := (rowF gs 0).length) (n := gs.length) (gF gs)) (Keep1 w.heap.size) (fun xs => xs = (gGrid (rowF gs 0).length gs.length V.w1 V.n1).list (gs.length * (rowF gs 0).length)) (gs.length * (rowF gs 0).length) W0 :=
    items_seq b off gs.length (rowF gs 0).length cap bb oo cc (gF gs) w.heap.size W0 V.w1 V.w16 V.n1 V.n16 (by omega) ((hG _ (Nat.le_refl _)).below hb0) (fun W hb => sizeG_any (.slice (some ⟨b, off, none⟩) gs.length cap) gs W V ((hv.below hb0).below hb))
  have hN : gs.length * (rowF gs 0).length ≤ 16 * 16 := Nat.mul_le_mul V.n16 V.w16
  obtain ⟨S, hSS⟩ : ∃ S, sumK (gF gs) (rowF gs 0).length (gs.length * (rowF gs 0).length) = S := ⟨_, rfl⟩
  rw [hSS] at hG2 ⊢
  have HG2 := Lib.hid hG2
  have HF := Lib.hid hF
  have HW0 := Lib.hid hW0
  have hA := V.w1
  have hNn := V.n1
  clear hG2 hF hW0 hG hSS
  refine callsIn_of_wp_marks Tryd.func70 rfl trivial ?_ rfl
  simp only [Tryd.ntmps70, List.size_toArray, List.length_cons, List.length_nil, Nat.reduceAdd, Nat.reduceSub, Array.replicate_succ, Array.replicate_zero, List.push_toArray, List.append_toArray, List.nil_append, List.cons_append]
  gi_wp2
  rw [HW0.out]
  refine rangeSeq (α := { q : Int × Int // InG (rowF gs 0).length gs.length q }) (by omega) (gf := 74) (fs := #[.slice (some ⟨b, off, none⟩) gs.length cap]) (lb := #[]) rfl calls_items hS keep1_t keep1_b (Below.refl _ _) (fun _ => rfl)
    (fun pre W => Blk W w.heap.size #[.int .i64 (sumP (gF gs) pre)] 2 ∧ Below w.heap.size w W)
    (OwnFrom.and (Own.from (BlkG.own w.heap.size (fun pre => #[.int .i64 (sumP (gF gs) pre)]) 2) _) (ownFrom_below (Nat.le_refl _) (by omega)))
    ⟨hp0, hb0⟩
    (fun x a' W => a' = { tmps := #[.slice (some ⟨b, off, none⟩) gs.length cap, undef, .int .i64 0, .pointer (some ⟨w.heap.size, 0, none⟩), undef, .int .i64 (gF gs x.1.2.toNat x.1.1.toNat), .slice (some ⟨b, off, none⟩) gs.length cap, .func (.func 74) #[.slice (some ⟨b, off, none⟩) gs.length cap] #[], .agg #[.int .i64 x.1.1, .int .i64 x.1.2], .int .i64 (gF gs x.1.2.toNat x.1.1.toNat), undef, undef, undef, undef], defers := [] })
    (fun x a' s X Y row hs hg hrow => hs)
    ?assign ?body ?done
  case assign =>
    rintro l pre x W K ⟨b1, hB⟩ hK
    simp only [encG]
    gi_wp2
    exact hK _ _ (KeepsFrom.refl _ _) (Keep1.below (Below.refl _ _)) ⟨b1, hB⟩ rfl
  case body =>
    rintro l pre xe a' WB hl' _ ⟨b1, hB⟩ rfl hlt
    have hin := xe.2
    unfold InG at hin
    have hsn := sumP_snoc (gF gs) pre xe
    have hbd := sumP_bd HF.out pre
    have hfx := HF.out xe.1.2.toNat (by omega) xe.1.1.toNat (by omega)
    obtain ⟨z, hz⟩ : ∃ z, gF gs xe.1.2.toNat xe.1.1.toNat = z := ⟨_, rfl⟩
    obtain ⟨sp, hsp⟩ : ∃ z, sumP (gF gs) pre = z := ⟨_, rfl⟩
    rw [hz] at hsn hfx ⊢
    rw [hsp] at hsn hbd b1
    have kw : IntKind.i64.wrap (sp + z) = sp + z := IntWalk.i64_in _ (by omega)
    have c1 := cell_of_one b1
    have f1 := free_of_one b1
    have HSn := Lib.hid hsn
    have HB1 := Lib.hid b1
    have HB := Lib.hid hB
    clear hsn hin hz hsp b1 hB hlt
    gi_wp2
    refine ⟨(KeepsOthers.setCell _ _ _).from _, Keep1.set _ _, ?_, HB.out.setCell (Nat.le_refl _) _⟩
    rw [HSn.out]
    exact one_setCell HB1.out
  case done =>
    rintro D ys W hD rfl ⟨b1, hB⟩ hK
    rw [HG2.out] at b1
    have c1 := cell_of_one b1
    have HKK := Lib.hid hK
    have HB := Lib.hid hB
    clear b1 hK hB
    gi_wp2
    refine ⟨by simp, .inl ⟨_, _, rfl, run_takeDeferred HKK.out, ?_⟩⟩
    exact ⟨_, results_tmp rfl _ _ _, rfl, HB.out.trans (belowK_b (w := w) (Nat.le_refl _) _ D _ _ (by omega) HKK.out rfl rfl)⟩
end Go.Proofs.YtnmnlbgialolhaaDoor

/- Contracts of single functions, and plain lemmas, on which the exact laws of this seat rest; each holds under the conditions that it states. -/
namespace Go.Proofs.YtnmnlbgialolhaaDoor
set_option linter.unusedVariables false
set_option linter.unusedSimpArgs false
open Go.RowKit
attribute [local go_sem] Oper.semAt_some

theorem sumK_bd {a n : Nat} {F : Nat → Nat → Int} (ha : 0 < a) (hF : ∀ y, y < n → ∀ x, x < a → 0 ≤ F y x ∧ F y x ≤ 99) : ∀ k, k ≤ n * a → 0 ≤ sumK F a k ∧ sumK F a k ≤ (k : Int) * 99
  | 0, _ => by simp [sumK]
  | k + 1, hk => by
    have ih := sumK_bd ha hF k (by omega)
    have d : k / a < n := Nat.div_lt_of_lt_mul (by rw [Nat.mul_comm]; omega)
    have h1 := hF (k / a) d (k % a) (Nat.mod_lt _ ha)
    rw [sumK]
    push_cast
    omega
theorem sumK_at (F : Nat → Nat → Int) (a y x : Nat) (hx : x < a) : sumK F a (y * a + x + 1) = sumK F a (y * a + x) + F y x := by
  rw [sumK]
  congr 2
  · rw [Nat.mul_comm, Nat.mul_add_div (by omega), Nat.div_eq_of_lt hx, Nat.add_zero]
  · rw [Nat.mul_comm, Nat.mul_add_mod, Nat.mod_eq_of_lt hx]
/-- the sum of a grey picture -/
def sumG (gs : List (List Int)) : Int := sumK (gF gs) (rowF gs 0).length (gs.length * (rowF gs 0).length)
theorem gyGs_vg {ss : List ByteArray} (V : VP ss) : VG 99 (gyGs ss) := by
  have h0 := gyGs_row ss 0 V.n1
  refine ⟨by rw [gyGs_len]; exact V.n1, by rw [gyGs_len]; exact V.n16, by rw [h0, rwF_len]; exact V.w1, by rw [h0, rwF_len]; exact V.w16, fun i hi => ?_, fun i hi j hj => ?_⟩
  · rw [gyGs_len] at hi
    rw [gyGs_row ss i hi, h0, rwF_len, rwF_len]
  · rw [gyGs_len] at hi
    rw [h0, rwF_len] at hj
    rw [gyGs_row ss i hi]
    have : (rwF (gyF ss) (row0 ss).size i).getD j 0 = gyF ss i j := by
      unfold rwF
      rw [List.getD_eq_getElem?_getD, List.getElem?_map, List.getElem?_range hj]
      rfl
    rw [this]
    exact gyB_rng _

set_option maxHeartbeats 2000000 in
set_option maxRecDepth 100000 in
theorem l10Sum_any (pb : Nat) (v : Value) (gs : List (List Int)) (w : World) (V : VG 99 gs) (hp : w.cell? ⟨pb, 0, none⟩ = some v) (hv : SlG w v gs) :
    Calls Tryd.prog 63 #[.pointer (some ⟨pb, 0, none⟩)] w (fun e w' => e = .returned (.int .i64 (sumG gs)) ∧ w = w') := by
  have hF : ∀ y, y < gs.length → ∀ x, x < (rowF gs 0).length → 0 ≤ gF gs y x ∧ gF gs y x ≤ 99 := V.num
  have HBd := Lib.hid (fun k h => sumK_bd V.w1 hF k h)
  have HAt := Lib.hid (fun y x h => sumK_at (gF gs) (rowF gs 0).length y x h)
  have HSG : Hid (sumG gs = sumK (gF gs) (rowF gs 0).length (gs.length * (rowF gs 0).length)) := rfl
  obtain ⟨b, off, cap, bb, oo, cc, rfl, hG⟩ := gAt_of V hv
  have hG0 := hG _ (Nat.le_refl _)
  have HR := Lib.hid (fun y h => hG0.row y h)
  have HNm := Lib.hid (fun y h x hx => hG0.num y h x hx)
  have HZ : Hid (sumK (gF gs) (rowF gs 0).length 0 = 0) := rfl
  have hN : gs.length * (rowF gs 0).length ≤ 16 * 16 := Nat.mul_le_mul V.n16 V.w16
  have hn16 := V.n16
  have hw16 := V.w16
  obtain ⟨S, hS⟩ : ∃ S, sumG gs = S := ⟨_, rfl⟩
  obtain ⟨F, hFe⟩ : ∃ F, gF gs = F := ⟨_, rfl⟩
  obtain ⟨a, ha⟩ : ∃ a, (rowF gs 0).length = a := ⟨_, rfl⟩
  obtain ⟨n, hn⟩ : ∃ n, gs.length = n := ⟨_, rfl⟩
  rw [hS, hFe, ha, hn] at HSG
  rw [hFe, ha, hn] at HBd
  rw [hFe, ha] at HAt HZ
  rw [ha, hn] at HR
  rw [hFe, ha, hn] at HNm
  rw [hn] at hp hn16
  rw [ha] at hw16
  rw [ha, hn] at hN
  rw [hS]
  clear hF V hv hG hG0 hS hFe ha hn
  go_enter Tryd.func63, Tryd.ntmps63
  go_wp2
  go_loopw [3, 4] (fun sv yv wr => ∃ y : Nat, y ≤ n ∧ yv = .int .i64 (y : Int) ∧ sv = .int .i64 (sumK F a (y * a)) ∧ w = wr) (fun _ yv _ => n - (intOf yv).toNat)
  case atStart => exact ⟨0, Nat.zero_le _, rfl, by rw [Nat.zero_mul, HZ.out], rfl⟩
  case round =>
    obtain ⟨y, hy, rfl, rfl, rfl⟩ := hrel
    by_cases hlt : y < n
    · have ky : (y : Int) < (n : Int) := by omega
      have hr := HR.out y hlt
      have hka : (y + 1) * a ≤ n * a := Nat.mul_le_mul hlt (Nat.le_refl _)
      rw [Nat.add_mul, Nat.one_mul] at hka
      go_wp2
      go_loopw [3, 5] (fun sv xv wr => ∃ x : Nat, x ≤ a ∧ xv = .int .i64 (x : Int) ∧ sv = .int .i64 (sumK F a (y * a + x)) ∧ w = wr) (fun _ xv _ => a - (intOf xv).toNat)
      case atStart => exact ⟨0, Nat.zero_le _, by first | rfl | trivial, by first | rfl | trivial, by first | rfl | trivial⟩
      case round =>
        obtain ⟨x, hx, rfl, rfl, rfl⟩ := hrel
        by_cases hlt2 : x < a
        · have kx : (x : Int) < (a : Int) := by omega
          have hnm := HNm.out y hlt x hlt2
          have hat := HAt.out y x hlt2
          have hb1 := HBd.out (y * a + x) (by omega)
          have hb2 := HBd.out (y * a + x + 1) (by omega)
          have hle : y * a + x ≤ 256 := by omega
          obtain ⟨z, hz⟩ : ∃ z, F y x = z := ⟨_, rfl⟩
          obtain ⟨s0, hs0⟩ : ∃ s, sumK F a (y * a + x) = s := ⟨_, rfl⟩
          rw [hz, hs0] at hat
          rw [hz] at hnm
          rw [hat] at hb2
          rw [hs0] at hb1 ⊢
          have kw : IntKind.i64.wrap (s0 + z) = s0 + z := IntWalk.i64_in _ (by push_cast at hb2; omega)
          have HAt2 : Hid (sumK F a (y * a + (x + 1)) = s0 + z) := hat
          clear hat hb1 hb2 hz hs0 hle hka
          go_wp2
          go_roundw
          case rel => exact ⟨x + 1, by omega, by go_num, by rw [HAt2.out], by first | rfl | trivial⟩
          case measure => simp [intOf]; omega
        · obtain rfl : x = a := by omega
          have e1 : y * x + x = (y + 1) * x := by rw [Nat.add_mul, Nat.one_mul]
          rw [e1]
          clear hka e1
          go_wp2
          go_roundw
          case rel => exact ⟨y + 1, by omega, by go_num, by first | rfl | trivial, by first | rfl | trivial⟩
          case measure => simp [intOf]; omega
    · obtain rfl : y = n := by omega
      rw [← HSG.out]
      go_wp2
      go_ret
      exact ⟨by first | rfl | trivial, by first | rfl | trivial⟩

set_option maxHeartbeats 2000000 in
set_option maxRecDepth 100000 in
theorem l10Size_any (pb : Nat) (v : Value) (gs : List (List Int)) (w : World) (V : VG 99 gs) (hp : w.cell? ⟨pb, 0, none⟩ = some v) (hv : SlG w v gs) :
    Calls Tryd.prog 60 #[.pointer (some ⟨pb, 0, none⟩)] w (fun e w' => e = .returned (.tuple #[.int .i64 (rowF gs 0).length, .int .i64 gs.length]) ∧ Below w.heap.size w w') := by
  obtain ⟨b, off, cap, bb, oo, cc, rfl, hG⟩ := gAt_of V hv
  have hr := (hG _ (Nat.le_refl _)).row 0 V.n1
  rw [Nat.add_zero] at hr
  have hn1 := V.n1
  obtain ⟨a, ha⟩ : ∃ a, (rowF gs 0).length = a := ⟨_, rfl⟩
  obtain ⟨n, hn⟩ : ∃ n, gs.length = n := ⟨_, rfl⟩
  rw [ha] at hr ⊢
  rw [hn] at hp hn1 ⊢
  have kn : (0 : Int) < (n : Int) := by omega
  clear V hv hG ha hn
  go_enter Tryd.func60, Tryd.ntmps60
  go_wp2
  go_region
  go_wp2
  go_ret2
  exact ⟨rfl, (Below.refl _ _).drew⟩

def meOk (gs : List (List Int)) (ss : List ByteArray) : Bool := vG 99 gs && (validB ss && (decide ((rowF gs 0).length = (row0 ss).size) && decide (gs.length = ss.length)))
def meV (gs : List (List Int)) (ss : List ByteArray) : Int := if meOk gs ss then sumG gs - sumG (gyGs ss) else 0
theorem meV_no {gs : List (List Int)} {ss : List ByteArray} (h : meOk gs ss = false) : meV gs ss = 0 := by unfold meV; rw [h]; rfl

set_option maxHeartbeats 4000000 in
set_option maxRecDepth 100000 in
theorem spec_MeanError (u : Value) (gs : List (List Int)) (v : Value) (ss : List ByteArray) (w : World) (hN : gs.length ≤ 1048576) (hf : ∀ i, i < gs.length → (rowF gs i).length ≤ 1048576) (hu : SlG w u gs) (hL : ss.length ≤ maxLen) (hz : ∀ s ∈ ss, s.size ≤ maxLen) (hv : Sl w v ss) :
    Calls Tryd.prog 25 #[.agg #[u], .agg #[v]] w (SaysIB (meV gs ss) (meOk gs ss) w) := by
  obtain ⟨W0, hW0⟩ : ∃ W0, (w.alloc (.cells #[u] 35)).alloc (.cells #[v] 26) = W0 := ⟨_, rfl⟩
  have hs0 : W0.heap.size = w.heap.size + 1 + 1 := by rw [← hW0]; simp
  have hb0 : Below w.heap.size w W0 := by rw [← hW0]; exact Joins.below_alloc2 _ _ _
  have p0 : W0.heap[w.heap.size]? = some (.cells #[u] 35 (0, 0)) := by
    rw [← hW0, Below.heap_alloc _ _ _ (by first | (simp; done) | (simp; omega))]; exact heap_alloc_last w _
  have p1 : W0.heap[w.heap.size + 1]? = some (.cells #[v] 26 (0, 0)) := by
    rw [← hW0]
    exact heap_alloc2_new _ _ _
  have HW := Lib.hid hW0
  have HB0 := Lib.hid hb0
  have CL := Lib.hid (fun W (hb : Below W0.heap.size W0 W) => l07Is_any w.heap.size u gs W (cell_kept hb (cell_of_one p0)) hN hf ((hu.below hb0).below hb))
  have CP := Lib.hid (fun W (hb : Below W0.heap.size W0 W) => l01Is_any (w.heap.size + 1) 0 v ss W (cell_kept hb (cell_of_one p1)) ((hv.below hb0).below hb) hL hz)
  unfold SaysB at CL CP
  cases hg : vG 99 gs with
  | false =>
    have hno : meOk gs ss = false := by unfold meOk; rw [hg]; rfl
    have e1 := Lib.hid (meV_no hno)
    rw [hg] at CL
    rw [e1.out, hno]
    clear hg hno e1 hu hv hN hf hL hz p0 p1 hW0 hb0 hs0 CP
    go_enter Tryd.func25, Tryd.ntmps25
    go_wp2_with fail
    rw [HW.out]
    refine (CL.out _ (Below.refl _ _)).mono ?_
    rintro e w1 ⟨rfl, hb1⟩
    have B1 := Lib.hid (HB0.out.trans (hb1.mono HB0.out.size))
    clear hb1
    go_wp2_with fail
    go_ret2
    exact ⟨rfl, B1.out⟩
  | true =>
    rw [hg] at CL
    cases hp : validB ss with
    | false =>
      have hno : meOk gs ss = false := by unfold meOk; rw [hg, hp]; rfl
      have e1 := Lib.hid (meV_no hno)
      rw [hp] at CP
      rw [e1.out, hno]
      clear hg hp hno e1 hu hv hN hf hL hz p0 p1 hW0 hb0 hs0
      go_enter Tryd.func25, Tryd.ntmps25
      go_wp2_with fail
      rw [HW.out]
      refine (CL.out _ (Below.refl _ _)).mono ?_
      rintro e w1 ⟨rfl, hb1⟩
      have B1 := Lib.hid hb1
      clear hb1
      go_wp2_with fail
      refine (CP.out _ B1.out).mono ?_
      rintro e w2 ⟨rfl, hb2⟩
      have B2 := Lib.hid (HB0.out.trans ((B1.out.trans (hb2.mono B1.out.size)).mono HB0.out.size))
      clear hb2
      go_wp2_with fail
      go_ret2
      exact ⟨rfl, B2.out⟩
    | true =>
      rw [hp] at CP
      have V := vg_of hg
      have VPs := vp_of hp
      have hA : ∀ W, Below W0.heap.size W0 W → PicAt W (w.heap.size + 1) 0 ss := fun W hb => ⟨hp, v, cell_kept hb (cell_of_one p1), (hv.below hb0).below hb⟩
      have CZ := Lib.hid (fun W (hb : Below W0.heap.size W0 W) => l10Size_any w.heap.size u gs W V (cell_kept hb (cell_of_one p0)) ((hu.below hb0).below hb))
      have CW := Lib.hid (fun W (hb : Below W0.heap.size W0 W) => l01Width_any (w.heap.size + 1) 0 ss W (hA W hb))
      have CH := Lib.hid (fun W (hb : Below W0.heap.size W0 W) => l01Height_any (w.heap.size + 1) 0 ss W (hA W hb))
      have CG := Lib.hid (fun W (hb : Below W0.heap.size W0 W) => l10Grey_any (w.heap.size + 1) ss W (hA W hb))
      have CS1 := Lib.hid (fun W (hb : Below W0.heap.size W0 W) => l10Sum_any w.heap.size u gs W V (cell_kept hb (cell_of_one p0)) ((hu.below hb0).below hb))
      have CS2 := Lib.hid (fun pb x W (h1 : W.cell? ⟨pb, 0, none⟩ = some x) (h2 : SlG W x (gyGs ss)) => l10Sum_any pb x (gyGs ss) W (gyGs_vg VPs) h1 h2)
      have HGl := Lib.hid (gyGs_len ss)
      have HGr := Lib.hid (fun y h => gyGs_row ss y h)
      have hbd1 : 0 ≤ sumG gs ∧ sumG gs ≤ 256 * 99 := by
        have := sumK_bd V.w1 (show ∀ y, y < gs.length → ∀ x, x < (rowF gs 0).length → 0 ≤ gF gs y x ∧ gF gs y x ≤ 99 from V.num) _ (Nat.le_refl _)
        have hm : gs.length * (rowF gs 0).length ≤ 16 * 16 := Nat.mul_le_mul V.n16 V.w16
        unfold sumG
        omega
      have hbd2 : 0 ≤ sumG (gyGs ss) ∧ sumG (gyGs ss) ≤ 256 * 99 := by
        have V2 := gyGs_vg VPs
        have := sumK_bd V2.w1 (show ∀ y, y < (gyGs ss).length → ∀ x, x < (rowF (gyGs ss) 0).length → 0 ≤ gF (gyGs ss) y x ∧ gF (gyGs ss) y x ≤ 99 from V2.num) _ (Nat.le_refl _)
        have hm : (gyGs ss).length * (rowF (gyGs ss) 0).length ≤ 16 * 16 := Nat.mul_le_mul V2.n16 V2.w16
        unfold sumG
        omega
      have hokv : meOk gs ss = (decide ((rowF gs 0).length = (row0 ss).size) && decide (gs.length = ss.length)) := by unfold meOk; rw [hg, hp]; rfl
      have hval : meV gs ss = if (decide ((rowF gs 0).length = (row0 ss).size) && decide (gs.length = ss.length)) = true then sumG gs - sumG (gyGs ss) else 0 := by unfold meV; rw [hokv]
      rw [hokv, hval]
      obtain ⟨s1, hs1⟩ : ∃ s, sumG gs = s := ⟨_, rfl⟩
      obtain ⟨s2, hs2⟩ : ∃ s, sumG (gyGs ss) = s := ⟨_, rfl⟩
      obtain ⟨a, ha⟩ : ∃ a, (rowF gs 0).length = a := ⟨_, rfl⟩
      obtain ⟨n, hn⟩ : ∃ a, gs.length = a := ⟨_, rfl⟩
      obtain ⟨c, hc⟩ : ∃ a, (row0 ss).size = a := ⟨_, rfl⟩
      obtain ⟨m, hm⟩ : ∃ a, ss.length = a := ⟨_, rfl⟩
      rw [ha, hn] at CZ
      rw [hc] at CW CG HGr
      rw [hm] at CH CG HGl HGr
      rw [hs1] at CS1 hbd1
      rw [hs2] at CS2 hbd2
      rw [hs1, hs2, ha, hn, hc, hm]
      obtain ⟨VAL, hVAL⟩ : ∃ z, (if (decide (a = c) && decide (n = m)) = true then s1 - s2 else 0) = z := ⟨_, rfl⟩
      obtain ⟨OKB, hOKB⟩ : ∃ z, (decide (a = c) && decide (n = m)) = z := ⟨_, rfl⟩
      rw [hVAL, hOKB]
      have HVAL := Lib.hid hVAL
      have HOKB := Lib.hid hOKB
      have kw : IntKind.i64.wrap (s1 - s2) = s1 - s2 := IntWalk.i64_in _ (by omega)
      obtain ⟨G, hG⟩ : ∃ G, gyGs ss = G := ⟨_, rfl⟩
      rw [hG] at CS2 HGl HGr
      unfold TookGy at CG
      clear hg hp hu hv hN hf hL hz p0 p1 hW0 hb0 hs0 V VPs hA hokv hval hs1 hs2 ha hn hc hm hG hbd1 hbd2 hVAL hOKB
      go_enter Tryd.func25, Tryd.ntmps25
      go_wp2_with fail
      rw [HW.out]
      refine (CL.out _ (Below.refl _ _)).mono ?_
      rintro e w1 ⟨rfl, hb1⟩
      have B1 := Lib.hid hb1
      clear hb1 CL
      go_wp2_with fail
      refine (CP.out _ B1.out).mono ?_
      rintro e w2 ⟨rfl, hb2⟩
      have B2 := Lib.hid (B1.out.trans (hb2.mono B1.out.size))
      clear hb2 CP B1
      go_wp2_with fail
      refine (CZ.out _ B2.out).mono ?_
      rintro e w3 ⟨rfl, hb3⟩
      have B3 := Lib.hid (B2.out.trans (hb3.mono B2.out.size))
      clear hb3 CZ B2
      go_wp2_with fail
      refine (CW.out _ B3.out).mono ?_
      rintro e w' ⟨rfl, rfl⟩
      by_cases hac : a = c
      · subst hac
        go_wp2_with fail
        refine (CH.out _ B3.out).mono ?_
        rintro e w' ⟨rfl, rfl⟩
        by_cases hnm : n = m
        · subst hnm
          have B9 := Lib.hid (HB0.out.trans (B3.out.mono HB0.out.size))
          go_wp2_with fail
          refine (CG.out _ B3.out).mono ?_
          rintro e w5 ⟨g5, cap5, rfl, ⟨us, hown⟩, hb5⟩
          have hsl : SlG w5 (.slice (some ⟨g5, 0, none⟩) n cap5) G := by
            have := (hown.congr fun i hi => (HGr.out i hi).symm).sl
            unfold SlG
            rw [HGl.out]
            exact this
          have hbA := Joins.below_alloc1 w5 (.cells #[.slice (some ⟨g5, 0, none⟩) n cap5] 35)
          have hb6 := B3.out.trans ((hb5.mono B3.out.size).trans (hbA.mono (Nat.le_trans B3.out.size hb5.size)))
          have C1 := Lib.hid (CS1.out _ hb6)
          have C2 := Lib.hid (CS2.out w5.heap.size _ _ (cell_of_one (heap_alloc_last w5 (.cells #[.slice (some ⟨g5, 0, none⟩) n cap5] 35))) (hsl.below hbA))
          have B6 := Lib.hid (HB0.out.trans (hb6.mono HB0.out.size))
          clear hown hb5 hsl hbA hb6 CS1 CS2 CG CH CW B3 B9
          go_wp2_with fail
          refine C1.out.mono ?_
          rintro e w7 ⟨rfl, hw7⟩
          obtain rfl := hw7
          go_wp2_with fail
          refine C2.out.mono ?_
          rintro e w8 ⟨rfl, hw8⟩
          obtain rfl := hw8
          go_wp2_with fail
          go_ret2
          rw [← HVAL.out, ← HOKB.out]
          exact ⟨by simp, B6.out⟩
        · have knm : ((n : Int) == (m : Int)) = false := by
            rw [beq_eq_false_iff_ne]; omega
          have knm2 : ((n : Int) != (m : Int)) = true := by simp; omega
          have B9 := Lib.hid (HB0.out.trans (B3.out.mono HB0.out.size))
          have hd : decide (n = m) = false := decide_eq_false hnm
          clear CG CS1 CS2 CH CW B3
          go_wp2_with fail
          go_ret2
          rw [← HVAL.out, ← HOKB.out, hd]
          exact ⟨by simp, B9.out⟩
      · have kac2 : ((a : Int) != (c : Int)) = true := by simp; omega
        have kac : ((a : Int) == (c : Int)) = false := by
          rw [beq_eq_false_iff_ne]; omega
        have B9 := Lib.hid (HB0.out.trans (B3.out.mono HB0.out.size))
        have hd : decide (a = c) = false := decide_eq_false hac
        clear CG CS1 CS2 CH CW B3
        go_wp2_with fail
        go_ret2
        rw [← HVAL.out, ← HOKB.out, hd]
        exact ⟨by simp, B9.out⟩
end Go.Proofs.YtnmnlbgialolhaaDoor
