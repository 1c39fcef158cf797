/- Contracts of single functions, and plain lemmas, on which the exact laws of this seat rest; each holds under the conditions that it states. -/
import Derived.Test.YtaopdhncapoefaaDoorE0
import Derived.Test.YtaopdhncapoefaaDoorE1
import Derived.Test.YtaopdhncapoefaaDoorS0
namespace Go.Proofs.YtaopdhncapoefaaDoor
set_option linter.unusedVariables false
set_option linter.unusedSimpArgs false
open Go.RowKit Go.Shelf
attribute [local go_sem] Oper.semAt_some

theorem RightP.keep {lb : Nat} {w w' : World} (h : RightP w) (hlb : lb ≠ 0) (hk : Keep1 lb w w') : RightP w' := by
  refine ⟨fun j v hv => ?_, Nat.lt_of_lt_of_le h.2 hk.1⟩
  have hc := h.1 j v hv
  obtain ⟨o, ho⟩ : ∃ o, w.heap[0]? = some o := ⟨_, Array.getElem?_eq_getElem h.2⟩
  cases o with
  | cells C t fr =>
    rw [Joins.cell_of_block ho] at hc
    rw [Joins.cell_of_block (hk.2 _ _ hlb.symm rfl ho)]
    exact hc
  | _ => simp [World.cell?, ho] at hc

/-- a place of a step: a corner and a direction -/
def sdAt (a i : Nat) : Int × Int × Nat := (((i / 4 % (a + 1) : Nat) : Int), ((i / 4 / (a + 1) : Nat) : Int), i % 4)
def sdL (p : Int → Int → Bool) (a t : Nat) : List (Int × Int × Nat) := ((List.range t).map (sdAt a)).filter fun s => ledB p s.1 s.2.1 s.2.2
def encS (s : Int × Int × Nat) : Array Value := #[.agg #[.int .i64 s.1, .int .i64 s.2.1, .int .i64 s.2.2]]
theorem sdL_len (p : Int → Int → Bool) (a t : Nat) : (sdL p a t).length ≤ t := by
  unfold sdL
  refine Nat.le_trans (List.length_filter_le _ _) ?_
  simp
theorem sdL_snoc (p : Int → Int → Bool) (a t : Nat) : sdL p a (t + 1) = sdL p a t ++ (if ledB p (sdAt a t).1 (sdAt a t).2.1 (sdAt a t).2.2 then [sdAt a t] else []) := by
  unfold sdL
  rw [List.range_succ, List.map_append, List.filter_append]
  congr 1
  simp only [List.map_cons, List.map_nil, List.filter]
  cases ledB p (sdAt a t).1 (sdAt a t).2.1 (sdAt a t).2.2 <;> rfl
theorem sdAt_eq (a y x d : Nat) (hx : x ≤ a) (hd : d < 4) : sdAt a (4 * (y * (a + 1) + x) + d) = ((x : Int), (y : Int), d) := by
  have e0 : (4 * (y * (a + 1) + x) + d) / 4 = y * (a + 1) + x := by omega
  have e1 : (y * (a + 1) + x) % (a + 1) = x := by rw [Nat.mul_comm, Nat.mul_add_mod, Nat.mod_eq_of_lt (by omega)]
  have e2 : (y * (a + 1) + x) / (a + 1) = y := by rw [Nat.mul_comm, Nat.mul_add_div (by omega), Nat.div_eq_of_lt (by omega), Nat.add_zero]
  have e3 : (4 * (y * (a + 1) + x) + d) % 4 = d := by omega
  unfold sdAt
  rw [e0, e1, e2, e3]

set_option maxRecDepth 100000 in
set_option maxHeartbeats 4000000 in
/-- the iterator over the steps of all borders -/
theorem sides_in (M : Array Value) (a b : Nat) (g : Nat → Nat) (hC : M = mat a b g) (ha : a ≤ 16) (hb : b ≤ 16) (hg : ∀ j, g j < 4294967296) (lb : Nat) (hlg : lb ≠ 0)
    (n : Nat) (hn : 1 ≤ n) (l : Nat) (J : List (Int × Int × Nat) → World → Prop) (hJ : ∀ pre A B, J pre A → Below A.heap.size A B → J pre B)
    (hY : ∀ pre x A, J pre A → pre.length < 4 * ((b + 1) * (a + 1)) → YieldAt Fence.wide (n - 1) Tryd.prog l (encS x) A fun e B => e = .returned (.bool true) ∧ J (pre ++ [x]) B ∧ Keep1 lb A B)
    (W : World) (h0 : J [] W) (hR : RightP W) (hlb : lb < W.heap.size) :
    CallsIn Fence.wide n Tryd.prog 37 #[.agg M, .func (.yield l) #[] #[]] W fun e W' => (∃ v, e = .returned v) ∧
      ∃ xs, xs = sdL (blackB a b g) a (4 * ((b + 1) * (a + 1))) ∧ J xs W' := by
  have CC := Lib.hid (fun x y w h1 h2 hR => cornerAt_any M a b g x y w hC ha hb hg h1 h2 hR)
  obtain ⟨p, hp⟩ : ∃ p, blackB a b g = p := ⟨_, rfl⟩
  rw [hp] at CC ⊢
  have CL := Lib.hid (fun x y d w hd => leads_any p x y d w hd)
  have HY := Lib.hid hY
  have HJ := Lib.hid hJ
  have HR := Lib.hid hR
  have HSn := Lib.hid (fun t => sdL_snoc p a t)
  have HLn := Lib.hid (fun t => sdL_len p a t)
  have HAt := Lib.hid (fun y x d hx hd => sdAt_eq a y x d hx hd)
  have hsz : M.size = 18 := by rw [hC]; rfl
  have HI : Hid ((Tryd.prog.info? 58).map (·.size) = some M.size) := by show _ = _; rw [hsz]; exact infoM
  have hm0 : M[0]? = some (.int .i64 a) := by rw [hC]; rfl
  have hm1 : M[1]? = some (.int .i64 b) := by rw [hC]; rfl
  clear hp hC hY hJ hR hg hsz
  refine callsIn_of_wp Tryd.func37 rfl trivial ?_ rfl
  simp only [Tryd.ntmps37, List.size_toArray, List.length_cons, List.length_nil, Nat.reduceAdd, Nat.reduceSub, Array.replicate_succ, Array.replicate_zero, List.push_toArray, List.append_toArray, List.nil_append, List.cons_append]
  have HM0 : Hid (∀ A : World, A.heap[W.heap.size]? = some (.cells M 58 (0, 0)) → A.cell? ⟨W.heap.size, 0, none⟩ = some (.int .i64 a) ∧ A.cell? ⟨W.heap.size, 1, none⟩ = some (.int .i64 b)) := fun A h => ⟨by rw [Joins.cell_of_block h 0]; exact hm0, by rw [Joins.cell_of_block h 1]; exact hm1⟩
  clear hm0 hm1
  have H1 : Hid ((W.alloc (.cells M 58)).heap[W.heap.size]? = some (.cells M 58 (0, 0))) := heap_alloc_last W _
  have HR1 : Hid (RightP (W.alloc (.cells M 58))) := HR.out.below (Joins.below_alloc1 W _)
  have HJ1 : Hid (J (sdL p a 0) (W.alloc (.cells M 58))) := HJ.out _ _ _ h0 (Joins.below_alloc1 W _)
  clear h0 HR
  have cm0 := (HM0.out _ H1.out).1
  have cm1 := (HM0.out _ H1.out).2
  gi_wp2
  clear cm0 cm1
  gi_loopw [12] (fun yv wr => ∃ y : Nat, y ≤ b + 1 ∧ yv = .int .i64 y ∧ Hid (J (sdL p a (4 * (y * (a + 1)))) wr) ∧ Hid (RightP wr) ∧ Hid (wr.heap[W.heap.size]? = some (.cells M 58 (0, 0)))) (fun yv _ => ((b : Int) + 1 - intOf yv).toNat)
  case atStart => exact ⟨0, by omega, rfl, by rw [Nat.zero_mul, Nat.mul_zero]; exact HJ1, HR1, H1⟩
  case round =>
    clear HJ1 HR1 H1
    obtain ⟨y, hy, rfl, HJ1, HR1, H1⟩ := hrel
    have cm := HM0.out wr H1.out
    have cm0 := cm.1
    have cm1 := cm.2
    clear cm
    by_cases hlt : y < b + 1
    · have ky : (y : Int) < (b : Int) + 1 := by omega
      gi_wp2
      clear cm0 cm1
      gi_loopw [18] (fun xv wr => ∃ x : Nat, x ≤ a + 1 ∧ xv = .int .i64 x ∧ Hid (J (sdL p a (4 * (y * (a + 1) + x))) wr) ∧ Hid (RightP wr) ∧ Hid (wr.heap[W.heap.size]? = some (.cells M 58 (0, 0)))) (fun xv _ => ((a : Int) + 1 - intOf xv).toNat)
      case atStart => exact ⟨0, by omega, rfl, HJ1, HR1, H1⟩
      case round =>
        clear HJ1 HR1 H1
        obtain ⟨x, hx, rfl, HJ1, HR1, H1⟩ := hrel
        by_cases hltx : x < a + 1
        · have kx : (x : Int) < (a : Int) + 1 := by omega
          have hW := (Array.getElem?_eq_some_iff.1 H1.out).1
          have H2 : Hid ((wr.alloc (.cells #[.int .i64 x, .int .i64 y] 71)).heap[W.heap.size]? = some (.cells M 58 (0, 0))) := (Below.heap_alloc _ _ _ hW).trans H1.out
          have HS2 : Hid ((wr.alloc (.cells #[.int .i64 x, .int .i64 y] 71)).heap[wr.heap.size]? = some (.cells #[.int .i64 x, .int .i64 y] 71 (0, 0))) := heap_alloc_last wr _
          have HR2 : Hid (RightP (wr.alloc (.cells #[.int .i64 x, .int .i64 y] 71))) := HR1.out.below (Joins.below_alloc1 wr _)
          have HJ2 : Hid (J (sdL p a (4 * (y * (a + 1) + x))) (wr.alloc (.cells #[.int .i64 x, .int .i64 y] 71))) := HJ.out _ _ _ HJ1.out (Joins.below_alloc1 wr _)
          have HC := Lib.hid (CC.out x y (wr.alloc (.cells #[.int .i64 x, .int .i64 y] 71)) (by omega) (by omega) HR2.out)
          clear HJ1 HR1 H1
          gi_wp2_with (first | (refine wpListIn_load_row_g rfl 58 _ rfl W.heap.size rfl 58 M (0, 0) _ H2.out Tryd.underlying58 rfl HI.out ?_) | (refine ⟨trivial, ?_⟩; gi_at_call 42; refine (callsIn_wide.2 HC.out).mono ?_; rintro e w3 ⟨rfl, hb3⟩; refine Hid.out ?_))
          have h3 := fun k (hk : k < (wr.alloc (.cells #[.int .i64 x, .int .i64 y] 71)).heap.size) => hb3.block k hk
          have H3 : Hid (w3.heap[W.heap.size]? = some (.cells M 58 (0, 0))) := (h3 _ (by simp; omega)).trans H2.out
          have HS3 : Hid (w3.heap[wr.heap.size]? = some (.cells #[.int .i64 x, .int .i64 y] 71 (0, 0))) := (h3 _ (by simp)).trans HS2.out
          have HR3 : Hid (RightP w3) := HR2.out.below hb3
          have HJ3 : Hid (J (sdL p a (4 * (y * (a + 1) + x))) w3) := HJ.out _ _ _ HJ2.out hb3
          clear h3 hb3 H2 HS2 HR2 HJ2 HC
          have hcr : crS p x y 4 = #[.bool (crV p x y 0), .bool (crV p x y 1), .bool (crV p x y 2), .bool (crV p x y 3)] := rfl
          have HL := Lib.hid (fun d w hd => CL.out x y d w hd)
          have HAx := Lib.hid (fun d hd => HAt.out y x d (by omega) hd)
          rw [hcr] at HL
          rw [hcr]
          obtain ⟨b0, hb0⟩ : ∃ v, crV p x y 0 = v := ⟨_, rfl⟩
          obtain ⟨b1, hb1⟩ : ∃ v, crV p x y 1 = v := ⟨_, rfl⟩
          obtain ⟨b2, hb2⟩ : ∃ v, crV p x y 2 = v := ⟨_, rfl⟩
          obtain ⟨b3, hb3⟩ : ∃ v, crV p x y 3 = v := ⟨_, rfl⟩
          rw [hb0, hb1, hb2, hb3] at HL
          rw [hb0, hb1, hb2, hb3]
          clear hcr hb0 hb1 hb2 hb3
          have hW3 := (Array.getElem?_eq_some_iff.1 H3.out).1
          have hS3 := (Array.getElem?_eq_some_iff.1 HS3.out).1
          have H4 : Hid ((w3.alloc (.cells #[.bool b0, .bool b1, .bool b2, .bool b3] 68)).heap[W.heap.size]? = some (.cells M 58 (0, 0))) := (Below.heap_alloc _ _ _ hW3).trans H3.out
          have HS4 : Hid ((w3.alloc (.cells #[.bool b0, .bool b1, .bool b2, .bool b3] 68)).heap[wr.heap.size]? = some (.cells #[.int .i64 x, .int .i64 y] 71 (0, 0))) := (Below.heap_alloc _ _ _ hS3).trans HS3.out
          have HC4 : Hid ((w3.alloc (.cells #[.bool b0, .bool b1, .bool b2, .bool b3] 68)).heap[w3.heap.size]? = some (.cells #[.bool b0, .bool b1, .bool b2, .bool b3] 68 (0, 0))) := heap_alloc_last w3 _
          have HR4 : Hid (RightP (w3.alloc (.cells #[.bool b0, .bool b1, .bool b2, .bool b3] 68))) := HR3.out.below (Joins.below_alloc1 w3 _)
          have HJ4 : Hid (J (sdL p a (4 * (y * (a + 1) + x))) (w3.alloc (.cells #[.bool b0, .bool b1, .bool b2, .bool b3] 68))) := HJ.out _ _ _ HJ3.out (Joins.below_alloc1 w3 _)
          clear H3 HS3 HR3 HJ3
          obtain ⟨Sx, hSx⟩ : ∃ s, wr.heap.size = s := ⟨_, rfl⟩
          rw [hSx] at HS4 ⊢
          refine Lib.hid ?_
          gi_wp2
          gi_loopw [27] (fun dv wd => ∃ d : Nat, d ≤ 4 ∧ dv = .int .i64 d ∧ Hid (J (sdL p a (4 * (y * (a + 1) + x) + d)) wd) ∧ Hid (RightP wd) ∧ Hid (wd.heap[W.heap.size]? = some (.cells M 58 (0, 0))) ∧ Hid (wd.heap[Sx]? = some (.cells #[.int .i64 x, .int .i64 y] 71 (0, 0))) ∧ Hid (wd.heap[w3.heap.size]? = some (.cells #[.bool b0, .bool b1, .bool b2, .bool b3] 68 (0, 0)))) (fun dv _ => (4 - intOf dv).toNat)
          case atStart => exact ⟨0, by omega, rfl, by rw [Nat.add_zero]; exact HJ4, HR4, H4, HS4, HC4⟩
          case round =>
            clear HJ4 HR4 H4 HS4 HC4
            obtain ⟨d, hd, rfl, HJ4, HR4, H4, HS4, HC4⟩ := hrel
            by_cases hltd : d < 4
            · have kd : (d : Int) < 4 := by omega
              have s0 : wr.cell? ⟨Sx, 0, none⟩ = some (.int .i64 x) := by rw [Joins.cell_of_block HS4.out 0]; rfl
              have s1 : wr.cell? ⟨Sx, 1, none⟩ = some (.int .i64 y) := by rw [Joins.cell_of_block HS4.out 1]; rfl
              have n1 : W.heap.size ≠ lb := by omega
              have n2 : Sx ≠ lb := by omega
              have n3 : w3.heap.size ≠ lb := by omega
              have hHL := Lib.hid (HL.out d wr hltd)
              have hsn := HSn.out (4 * (y * (a + 1) + x) + d)
              rw [HAx.out d hltd] at hsn
              have hlN : (sdL p a (4 * (y * (a + 1) + x) + d)).length < 4 * ((b + 1) * (a + 1)) := by
                have h1 := HLn.out (4 * (y * (a + 1) + x) + d)
                have : (y + 1) * (a + 1) ≤ (b + 1) * (a + 1) := Nat.mul_le_mul hlt (Nat.le_refl _)
                rw [Nat.add_mul y 1, Nat.one_mul] at this
                omega
              have HSm := Lib.hid hsn
              have HlN := Lib.hid hlN
              clear hsn hlN HAx HL
              obtain ⟨pre, hpre⟩ : ∃ t, sdL p a (4 * (y * (a + 1) + x) + d) = t := ⟨_, rfl⟩
              rw [hpre] at HJ4 HSm HlN
              obtain ⟨nx, hnx⟩ : ∃ t, sdL p a (4 * (y * (a + 1) + x) + d + 1) = t := ⟨_, rfl⟩
              rw [hnx] at HSm
              have HNx := Lib.hid hnx
              clear hnx hpre
              have infC : Hid ((Tryd.prog.info? 68).map (·.size) = some (#[.bool b0, .bool b1, .bool b2, .bool b3] : Array Value).size) := infoCs
              cases hled : ledB p x y d with
              | false =>
                have hsm := HSm.out
                rw [hled] at hHL hsm
                rw [if_neg (by simp), List.append_nil] at hsm
                have HE := Lib.hid hsm
                clear hsm HSm s0 s1
                gi_wp2_with (first | (refine wpListIn_load_row_g rfl 68 _ rfl w3.heap.size rfl 68 _ (0, 0) _ HC4.out Tryd.underlying68 rfl infC.out ?_) | (refine ⟨trivial, ?_⟩; gi_at_call 59; refine (callsIn_wide.2 hHL.out).mono ?_; rintro e w4 ⟨rfl, hb4⟩; refine Hid.out ?_))
                have J5 : Hid (J pre w4) := HJ.out _ _ _ HJ4.out hb4
                have R5 : Hid (RightP w4) := HR4.out.below hb4
                have G1 : Hid (w4.heap[W.heap.size]? = some (.cells M 58 (0, 0))) := (hb4.block _ (Array.getElem?_eq_some_iff.1 H4.out).1).trans H4.out
                have G2 : Hid (w4.heap[Sx]? = some (.cells #[.int .i64 x, .int .i64 y] 71 (0, 0))) := (hb4.block _ (Array.getElem?_eq_some_iff.1 HS4.out).1).trans HS4.out
                have G3 : Hid (w4.heap[w3.heap.size]? = some (.cells #[.bool b0, .bool b1, .bool b2, .bool b3] 68 (0, 0))) := (hb4.block _ (Array.getElem?_eq_some_iff.1 HC4.out).1).trans HC4.out
                clear hb4 HJ4 HR4 H4 HS4 HC4 hHL
                rw [← HE.out] at J5
                rw [← HNx.out] at J5
                refine Lib.hid ?_
                gi_wp2
                refine ⟨fun f hf => (by cases hf), ?_⟩
                gi_wp2
                go_roundw
                case rel => exact ⟨d + 1, by omega, by go_num, J5, R5, G1, G2, G3⟩
                case measure => simp [intOf]; omega
              | true =>
                have hsm := HSm.out
                rw [hled] at hHL hsm
                rw [if_pos rfl] at hsm
                have HE := Lib.hid hsm
                clear hsm HSm s0 s1
                gi_wp2_with (first | (refine wpListIn_load_row_g rfl 68 _ rfl w3.heap.size rfl 68 _ (0, 0) _ HC4.out Tryd.underlying68 rfl infC.out ?_) | (refine ⟨trivial, ?_⟩; gi_at_call 59; refine (callsIn_wide.2 hHL.out).mono ?_; rintro e w4 ⟨rfl, hb4⟩; refine Hid.out ?_))
                have J5 : Hid (J pre w4) := HJ.out _ _ _ HJ4.out hb4
                have R5 : Hid (RightP w4) := HR4.out.below hb4
                have G1 : Hid (w4.heap[W.heap.size]? = some (.cells M 58 (0, 0))) := (hb4.block _ (Array.getElem?_eq_some_iff.1 H4.out).1).trans H4.out
                have G2 : Hid (w4.heap[Sx]? = some (.cells #[.int .i64 x, .int .i64 y] 71 (0, 0))) := (hb4.block _ (Array.getElem?_eq_some_iff.1 HS4.out).1).trans HS4.out
                have G3 : Hid (w4.heap[w3.heap.size]? = some (.cells #[.bool b0, .bool b1, .bool b2, .bool b3] 68 (0, 0))) := (hb4.block _ (Array.getElem?_eq_some_iff.1 HC4.out).1).trans HC4.out
                clear hb4 HJ4 HR4 H4 HS4 HC4 hHL
                have s0 : w4.cell? ⟨Sx, 0, none⟩ = some (.int .i64 x) := by rw [Joins.cell_of_block G2.out 0]; rfl
                have s1 : w4.cell? ⟨Sx, 1, none⟩ = some (.int .i64 y) := by rw [Joins.cell_of_block G2.out 1]; rfl
                obtain ⟨fn, tmps, assign, body, hyv, hRd⟩ := HY.out pre (x, y, d) w4 J5.out HlN.out
                simp only [encS] at hyv
                refine Lib.hid ?_
                gi_wp2
                refine hRd.mono ?_
                rintro e w5 ⟨rfl, hj5, hk5⟩
                have J6 : Hid (J (pre ++ [((x : Int), (y : Int), d)]) w5) := hj5
                have R6 : Hid (RightP w5) := R5.out.keep hlg hk5
                have K1 : Hid (w5.heap[W.heap.size]? = some (.cells M 58 (0, 0))) := hk5.2 _ _ n1 rfl G1.out
                have K2 : Hid (w5.heap[Sx]? = some (.cells #[.int .i64 x, .int .i64 y] 71 (0, 0))) := hk5.2 _ _ n2 rfl G2.out
                have K3 : Hid (w5.heap[w3.heap.size]? = some (.cells #[.bool b0, .bool b1, .bool b2, .bool b3] 68 (0, 0))) := hk5.2 _ _ n3 rfl G3.out
                clear hj5 hk5 J5 R5 G1 G2 G3 s0 s1 hyv hRd
                rw [← HE.out] at J6
                rw [← HNx.out] at J6
                gi_wp2
                go_roundw
                case rel => exact ⟨d + 1, by omega, by go_num, J6, R6, K1, K2, K3⟩
                case measure => simp [intOf]; omega
            · obtain rfl : d = 4 := by omega
              have e1 : 4 * (y * (a + 1) + x) + 4 = 4 * (y * (a + 1) + (x + 1)) := by omega
              rw [e1] at HJ4
              clear e1
              gi_wp2
              go_roundw
              case rel => exact ⟨x + 1, by omega, by go_num, HJ4, HR4, H4⟩
              case measure => simp [intOf]; omega
        · obtain rfl : x = a + 1 := by omega
          have kx : ¬ ((a + 1 : Nat) : Int) < (a : Int) + 1 := by omega
          have e1 : y * (a + 1) + (a + 1) = (y + 1) * (a + 1) := by rw [Nat.add_mul y 1, Nat.one_mul]
          rw [e1] at HJ1
          clear e1
          gi_wp2
          go_roundw
          case rel => exact ⟨y + 1, by omega, by go_num, HJ1, HR1, H1⟩
          case measure => simp [intOf]; omega
    · obtain rfl : y = b + 1 := by omega
      have ky : ¬ ((b + 1 : Nat) : Int) < (b : Int) + 1 := by omega
      gi_wp2
      go_end0
      exact ⟨⟨_, rfl⟩, HJ1.out⟩
end Go.Proofs.YtaopdhncapoefaaDoor
