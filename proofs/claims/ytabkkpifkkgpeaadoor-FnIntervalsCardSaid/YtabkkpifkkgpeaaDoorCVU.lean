/- Contracts of single functions, and plain lemmas, on which the exact laws of this seat rest; each holds under the conditions that it states. -/
import Derived.Test.YtabkkpifkkgpeaaDoorCVT
import Derived.Test.YtabkkpifkkgpeaaDoorCVD
namespace Go.Proofs.YtabkkpifkkgpeaaDoor
set_option linter.unusedVariables false
set_option linter.unusedSimpArgs false
open Go.RowKit Go.Shelf
attribute [local go_sem] Oper.semAt_some

theorem wpListIn_build_as {F : Fence} {q : Nat} {P : Program} {w : World} {ops : Array Oper} {rest : List Oper} {o : Oper} {a : Act} {Q : Exit → Act → World → Prop} (hg : o.guard = none) (t : TypeId) (parts : Array (Nat × Operand)) (ho : o.op = .build t parts) (vals : List (Nat × Value)) (cells : Array Value)
    (hv : parts.toList.map (fun (i, x) => (i, a.eval x)) = vals) (hb : P.built t vals = some cells) (hK : wpListIn F q P ops Q rest (a.put o.dst (.agg cells)) w) : wpListIn F q P ops Q (o :: rest) a w := by
  refine wpListIn_plain hg fun K hK' => ?_
  refine ⟨fun f hf => by simp [Oper.about, ho] at hf, ?_⟩
  rw [semAt_plain F.round a.eval (by intro c; rw [ho]; simp)]
  have hc : P.built t (parts.map fun (i, x) => (i, a.eval x)).toList = some cells := by rw [Array.toList_map, hv]; exact hb
  simp only [execOp, ho, Sem.run_bind, run_build w t _ cells hc, Result.andThen_ok]
  exact hK' _ _ hK

/-- the sum so far -/
def szF (gg : Nat → Nat → Nat) {P : Int × Int → Prop} (pre : List { q : Int × Int // P q }) : Nat := (pre.map fun p => gg p.1.1.toNat p.1.2.toNat).sum
theorem slN_form {w : World} {v : Value} {X : List Int} (h : SlN w v X) : ∃ ax cx, v = .slice ax X.length cx := by
  rcases h with ⟨ao, cap, rfl, hnil⟩ | ⟨b, off, cap, rfl, _⟩
  · exact ⟨ao, cap, by rw [hnil]; rfl⟩
  · exact ⟨_, _, rfl⟩
theorem szF_snoc (gg : Nat → Nat → Nat) {P : Int × Int → Prop} (pre : List { q : Int × Int // P q }) (xe : { q : Int × Int // P q }) : szF gg (pre ++ [xe]) = szF gg pre + gg xe.1.1.toNat xe.1.2.toNat := by
  unfold szF
  rw [List.map_append, List.sum_append]
  simp
theorem szF_le {gg : Nat → Nat → Nat} (hg : ∀ x y, gg x y ≤ 256) {P : Int × Int → Prop} : ∀ pre : List { q : Int × Int // P q }, szF gg pre ≤ pre.length * 256
  | [] => by simp [szF]
  | a :: t => by
    have h1 := szF_le hg t
    have h2 := hg a.1.1.toNat a.1.2.toNat
    unfold szF at h1 ⊢
    rw [List.map_cons, List.sum_cons, List.length_cons, Nat.add_mul, Nat.one_mul]
    omega
theorem szF_grid (gg : Nat → Nat → Nat) (A B : Nat) (hA : 0 < A) (hB : 0 < B) : ∀ k, k ≤ B * A → szF gg ((gGrid A B hA hB).list k) = szS A gg k
  | 0, _ => rfl
  | k + 1, hk => by
    rw [Grid.list_snoc, szF_snoc, szF_grid gg A B hA hB k (by omega)]
    have d : k / A < B := Nat.div_lt_of_lt_mul (by rw [Nat.mul_comm]; omega)
    have hx : ((gGrid A B hA hB).at k).1 = (((k % A : Nat) : Int), ((k / A : Nat) : Int)) := by
      refine Prod.ext ?_ ?_
      · show ((k % A : Nat) : Int) - ((0 : Nat) : Int) = _
        simp
      · show ((k / A % B : Nat) : Int) - ((0 : Nat) : Int) = _
        rw [Nat.mod_eq_of_lt d]
        simp
    rw [hx]
    rfl
theorem ownG_from {β : Type} (lo Bd gb N cap : Nat) (f : β → List Value) (hrb : gb < Bd) : OwnFrom Bd (fun (s : β) W => W.ownsRow lo 29 2 (.slice (some ⟨gb, 0, none⟩) N cap) N (f s)) := fun s W W' row h hg hr => own_keep h fun k e => by
  have hk : k = gb := by
    simp [Value.ownBlock] at e
    omega
  subst hk
  exact hg.block k (h.lt k rfl).2 (fun e2 => by have := (hr k e2.symm).1; omega)

set_option maxRecDepth 100000 in
set_option maxHeartbeats 8000000 in
theorem szWork (pc pn pa pb : Nat) (c n a b : Nat) (w : World) (hp1 : w.cell? ⟨pc, 0, none⟩ = some (.int .i64 (c : Int))) (hp2 : w.cell? ⟨pn, 0, none⟩ = some (.int .i64 (n : Int))) (hp3 : w.cell? ⟨pa, 0, none⟩ = some (.int .i64 ((a : Int) + 1))) (hp4 : w.cell? ⟨pb, 0, none⟩ = some (.int .i64 ((b : Int) + 1))) (hQ : QvP w) (hc : c < 4) (hn : n ≤ 4) (ha : a < 2 ^ n) (hb : b < 2 ^ n) :
    Calls Tryd.prog 70 #[.pointer (some ⟨pc, 0, none⟩), .pointer (some ⟨pn, 0, none⟩), .pointer (some ⟨pa, 0, none⟩), .pointer (some ⟨pb, 0, none⟩)] w (fun e w' => e = .returned (.int .i64 (szT c n ((a : Int) + 1) ((b : Int) + 1) : Int)) ∧ Below w.heap.size w w') := by
  refine (callsIn_wide (n := 6)).1 ?_
  have h16 := pow_le16 hn
  have CT : Hid (∀ W, Calls Tryd.prog 49 #[.int .i64 (c : Int), .int .i64 (n : Int)] W (fun e w' => e = .returned (.agg #[.int .i64 (c : Int), .int .i64 (n : Int)]) ∧ Below W.heap.size W w')) := fun W => requiredTour_yes (c : Int) (n : Int) W (by unfold inB; rw [decide_eq_true (by omega), decide_eq_true (by omega)]; rfl) (by unfold inB; rw [decide_eq_true (by omega), decide_eq_true (by omega)]; rfl)
  have CQ := Lib.hid (fun W => square_any (c : Int) (n : Int) W (by omega) (by omega))
  rw [sq_mat] at CQ
  have CX : Hid (∀ W, Below w.heap.size w W → Calls Tryd.prog 50 #[.agg #[.int .i64 (c : Int), .int .i64 (n : Int)]] W (TookSpots W (cvF c n))) := fun W hb => spots_made c n W hc hn (hQ.below hb)
  unfold TookSpots at CX
  obtain ⟨q, hq⟩ : ∃ q, 2 ^ n = q := ⟨_, rfl⟩
  rw [hq] at h16 ha hb CQ
  have q1 : 1 ≤ q := by omega
  obtain ⟨M0, hM0⟩ : ∃ M, mat q q (fun _ => 0) = M := ⟨_, rfl⟩
  rw [hM0] at CQ
  have HP : Hid (∀ W, Below w.heap.size w W → W.cell? ⟨pc, 0, none⟩ = some (.int .i64 (c : Int)) ∧ W.cell? ⟨pn, 0, none⟩ = some (.int .i64 (n : Int)) ∧ W.cell? ⟨pa, 0, none⟩ = some (.int .i64 ((a : Int) + 1)) ∧ W.cell? ⟨pb, 0, none⟩ = some (.int .i64 ((b : Int) + 1))) := fun W hb => ⟨cell_kept hb hp1, cell_kept hb hp2, cell_kept hb hp3, cell_kept hb hp4⟩
  have HM0 := Lib.hid hM0
  have hf0 : ∀ (W : World), Sem.run Tryd.prog (Instr.field 96 (.agg M0) 0) W = .ok (.int .i64 (q : Int)) W := fun W => by
    rw [← hM0]
    rfl
  clear hp3 hp4 hM0
  refine callsIn_of_wp_marks Tryd.func70 rfl trivial ?_ rfl
  simp only [Tryd.ntmps70, List.size_toArray, List.length_cons, List.length_nil, Nat.reduceAdd, Nat.reduceSub, Array.replicate_succ, Array.replicate_zero, List.push_toArray, List.append_toArray, List.nil_append, List.cons_append]
  gi_wp2_with (refine ⟨trivial, ?_⟩; gi_at_call 49; refine (callsIn_wide.2 (CT.out _)).mono ?_; rintro e w1 ⟨rfl, hb1⟩; refine Hid.out ?_)
  have hbA := hb1.alloc hb1.size (.cells #[.int .i64 (c : Int), .int .i64 (n : Int)] 71)
  have hpA := heap_alloc_last w1 (.cells #[.int .i64 (c : Int), .int .i64 (n : Int)] 71)
  have hA0 : (w1.alloc (.cells #[.int .i64 (c : Int), .int .i64 (n : Int)] 71)).cell? ⟨w1.heap.size, 0, none⟩ = some (.int .i64 (c : Int)) := by rw [Joins.cell_of_block hpA 0]; rfl
  have hA1 : (w1.alloc (.cells #[.int .i64 (c : Int), .int .i64 (n : Int)] 71)).cell? ⟨w1.heap.size, 1, none⟩ = some (.int .i64 (n : Int)) := by rw [Joins.cell_of_block hpA 1]; rfl
  clear hp1 hp2
  refine Lib.hid ?_
  gi_wp2_with (refine ⟨trivial, ?_⟩; gi_at_call 71; refine (callsIn_wide.2 (CQ.out _)).mono ?_; rintro e w2 ⟨rfl, hb2⟩; refine Hid.out ?_)
  have V2 := Lib.hid (hbA.trans (hb2.mono hbA.size))
  have HA2 := Lib.hid ((fun W (hb : Below w2.heap.size w2 W) => cell_kept hb (cell_kept hb2 hA0) : ∀ W, Below w2.heap.size w2 W → W.cell? ⟨w1.heap.size, 0, none⟩ = some (.int .i64 (c : Int))))
  have HA3 := Lib.hid ((fun W (hb : Below w2.heap.size w2 W) => cell_kept hb (cell_kept hb2 hA1) : ∀ W, Below w2.heap.size w2 W → W.cell? ⟨w1.heap.size, 1, none⟩ = some (.int .i64 (n : Int))))
  obtain ⟨_, _, p3, p4⟩ := HP.out _ V2.out
  obtain ⟨pt, hpt⟩ : ∃ p, w1.heap.size = p := ⟨_, rfl⟩
  have hptl : pt < w2.heap.size := by have := hb2.size; simp at this; omega
  rw [hpt] at HA2 HA3 ⊢
  clear hA0 hA1 hbA hb1 hb2 hpA hpt
  refine Lib.hid ?_
  gi_wp2_with (refine ⟨trivial, ?_⟩; gi_at_call 53; rw [decide_eq_true (show max (a : Int) (b : Int) + 1 ≤ (q : Int) by omega)]; refine (callsIn_wide.2 (require_yes _)).mono ?_; rintro e w3 ⟨rfl, rfl⟩; refine Hid.out ?_)
  obtain ⟨t1, t2⟩ := And.intro (HA2.out _ (Below.refl _ _)) (HA3.out _ (Below.refl _ _))
  clear p3 p4
  refine Lib.hid ?_
  gi_wp2_with (refine ⟨trivial, ?_⟩; gi_at_call 50; refine (callsIn_wide.2 (CX.out _ V2.out)).mono ?_; rintro e w4 ⟨g, cap, rfl, hown, hb4⟩; refine Hid.out ?_)
  have hsl4 := hown.lt g rfl
  have sp := OwnS.spots hown
  obtain ⟨L, hL⟩ : ∃ L, cvF c n = L := ⟨_, rfl⟩
  have hLl : L.length = q * q := by rw [← hL, cvF_len, hq]
  rw [hL] at sp ⊢
  have HLe := Lib.hid hL
  obtain ⟨N, hN⟩ : ∃ N, L.length = N := ⟨_, rfl⟩
  rw [hN] at hLl ⊢
  have HLl := Lib.hid hLl
  clear hLl
  have hbA := hb4.alloc hb4.size (.cells #[.slice (some ⟨g, 0, none⟩) N cap] 44)
  have hpA := heap_alloc_last w4 (.cells #[.slice (some ⟨g, 0, none⟩) N cap] 44)
  have hbB := Joins.below_alloc1 w4 (.cells #[.slice (some ⟨g, 0, none⟩) N cap] 44)
  obtain ⟨w5, hw5⟩ : ∃ x, w4.alloc (.cells #[.slice (some ⟨g, 0, none⟩) N cap] 44) = x := ⟨_, rfl⟩
  obtain ⟨ps, hps⟩ : ∃ x, w4.heap.size = x := ⟨_, rfl⟩
  have hl5 : w5.heap.size = ps + 1 := by rw [← hw5, ← hps]; simp
  have hl4 : w3.heap.size ≤ ps := by rw [← hps]; exact hb4.size
  have V5 := Lib.hid (V2.out.trans (hbA.mono V2.out.size))
  have SP5 := Lib.hid (sp.below hbB)
  have P5 : Hid (∀ W, Below w5.heap.size w5 W → W.cell? ⟨pc, 0, none⟩ = some (.int .i64 (c : Int)) ∧ W.cell? ⟨pn, 0, none⟩ = some (.int .i64 (n : Int)) ∧ W.cell? ⟨pa, 0, none⟩ = some (.int .i64 ((a : Int) + 1)) ∧ W.cell? ⟨pb, 0, none⟩ = some (.int .i64 ((b : Int) + 1))) := fun W hb => HP.out W (by rw [hw5] at V5; exact V5.out.trans (hb.mono V5.out.size))
  obtain ⟨_, _, p3, p4⟩ := HP.out _ V5.out
  rw [hw5] at V5 hpA SP5
  rw [hps] at hpA
  have hO5 : w5.ownsRow w3.heap.size 29 2 (.slice (some ⟨g, 0, none⟩) N cap) N (flat2 L) := by
    have h9 : w4.ownsRow w3.heap.size 29 2 (.slice (some ⟨g, 0, none⟩) N cap) N (flat2 L) := by
      have h8 := hown
      unfold OwnS at h8
      rw [hL, hN] at h8
      exact h8
    rw [← hw5]
    exact own_below h9 hbB
  have hgl : w3.heap.size ≤ g ∧ g < ps := by
    rw [← hps]
    exact hsl4
  have HO5 := Lib.hid hO5
  clear hO5 hsl4
  have HW5 := Lib.hid hw5
  have HPs := Lib.hid hps
  have HL5 := Lib.hid hl5
  clear hl5 hbA hbB hown sp hb4 hw5 hps hL hN t1 t2 CX CT CQ
  obtain ⟨A, hA⟩ : ∃ A, q - a = A := ⟨_, rfl⟩
  obtain ⟨B, hB⟩ : ∃ A, q - b = A := ⟨_, rfl⟩
  have kw1 : IntKind.i64.wrap ((q : Int) - ((a : Int) + 1)) = (A : Int) - 1 := by rw [show (q : Int) - ((a : Int) + 1) = (A : Int) - 1 from by omega]; exact IntWalk.i64_in _ (by omega)
  have kw2 : IntKind.i64.wrap ((q : Int) - ((b : Int) + 1)) = (B : Int) - 1 := by rw [show (q : Int) - ((b : Int) + 1) = (B : Int) - 1 from by omega]; exact IntWalk.i64_in _ (by omega)
  have kw3 : IntKind.i64.wrap (A : Int) = (A : Int) := IntWalk.i64_in _ (by omega)
  have kw4 : IntKind.i64.wrap (B : Int) = (B : Int) := IntWalk.i64_in _ (by omega)
  have HBl : Hid (Tryd.prog.built 96 [(0, .int .i64 (A : Int)), (1, .int .i64 (B : Int))] = some (mat A B (fun _ => 0))) := built_m2 (A : Int) (B : Int)
  obtain ⟨M, hM⟩ : ∃ M, mat A B (fun _ => 0) = M := ⟨_, rfl⟩
  rw [hM] at HBl
  refine Lib.hid ?_
  gi_wp2_with (refine wpListIn_build_as rfl 96 _ rfl [(0, .int .i64 (A : Int)), (1, .int .i64 (B : Int))] M rfl HBl.out ?_; refine Hid.out ?_)
  rw [HW5.out, HPs.out]
  have hsz : M.size = 18 := by rw [← hM]; rfl
  have HI : Hid ((Tryd.prog.info? 96).map (·.size) = some M.size) := by show _ = _; rw [hsz]; exact infoM
  have HZ0 : Hid (zeros.size = M.size) := by show _ = _; rw [hsz]; rfl
  have HO : Hid (M.all (·.oneCell') = true) := by show _ = _; rw [← hM]; exact mcells_one _ _ _
  have hM2 : ∀ (W : World) (g : Nat), W.heap[g]? = some (.cells M 96 (0, 0)) → W.cell? ⟨g, 0, none⟩ = some (.int .i64 (A : Int)) ∧ W.cell? ⟨g, 1, none⟩ = some (.int .i64 (B : Int)) := fun W g h => by
    rw [← hM] at h
    exact ⟨by rw [Joins.cell_of_block h 0]; rfl, by rw [Joins.cell_of_block h 1]; rfl⟩
  have HM2 := Lib.hid hM2
  clear hM hM2 p3 p4
  refine Lib.hid ?_
  gi_wp2_with (refine wpListIn_store_new w5 rfl 96 _ _ rfl M rfl rfl 96 zeros HI.out HZ0.out HO.out ?_; refine Hid.out ?_)
  refine Lib.hid ?_
  have b2 : Hid (Blk ((w5.alloc (.cells M 96)).alloc (.cells #[.int .i64 0] 3)) w5.heap.size M 96) := Blk.alloc (heap_alloc_last w5 _) _
  gi_wp2_with (first | (refine wpListIn_load_row rfl 96 _ rfl w5.heap.size rfl 96 M (0, 0) _ b2.out Tryd.underlying96 rfl HI.out ?_) | (refine ⟨trivial, ?_⟩; gi_at_call 72; refine (callsIn_wide.2 (spots_any M 0 _ hsz)).mono ?_; rintro e w6 ⟨rfl, rfl⟩; refine Hid.out ?_))
  refine Lib.hid ?_
  gi_wp2
  have hA1 : 0 < A := by omega
  have hB1 : 0 < B := by omega
  obtain ⟨gg, hgg⟩ : ∃ gg : Nat → Nat → Nat, (fun x y => (szB c n ((a : Int) + 1) ((b : Int) + 1) x y).length) = gg := ⟨_, rfl⟩
  have hG256 : ∀ x y, gg x y ≤ 256 := fun x y => by rw [← hgg]; exact szB_len c n hn _ _ x y
  have HEnd : Hid (szF gg ((gGrid A B hA1 hB1).list (B * A)) = szT c n ((a : Int) + 1) ((b : Int) + 1)) := by
    show _ = _
    rw [szF_grid gg A B hA1 hB1 _ (Nat.le_refl _)]
    unfold szT
    rw [Int.add_sub_cancel, Int.add_sub_cancel, Int.toNat_natCast, Int.toNat_natCast, hq, hA, hB, hgg]
  have HSn := Lib.hid (fun pre xe => szF_snoc gg (P := InG A B) pre xe)
  have HSl := Lib.hid (fun pre => szF_le hG256 (P := InG A B) pre)
  have hN256 : L.length ≤ 256 := by rw [← HLe.out, cvF_len, hq]; exact Nat.mul_le_mul h16 h16
  have HLn : Hid (L.length = N) := by show _ = _; rw [HLl.out, ← HLe.out, cvF_len, hq]
  have HBx : Hid (∀ (x y : Nat), gg x y = (ivL (fun i => inBx (x : Int) (y : Int) ((x : Int) + (a : Int)) ((y : Int) + (b : Int)) (L.getD i (0, 0))) L.length).length) := fun x y => by
    rw [← hgg, ← HLe.out]
    show (szB c n ((a : Int) + 1) ((b : Int) + 1) x y).length = _
    unfold szB
    rw [show (x : Int) + ((a : Int) + 1) - 1 = (x : Int) + (a : Int) from by omega, show (y : Int) + ((b : Int) + 1) - 1 = (y : Int) + (b : Int) from by omega]
    rfl
  obtain ⟨W0, hW0⟩ : ∃ W0, ((((w5.alloc (.cells M 96)).alloc (.cells #[.int .i64 0] 3)).alloc (.cells M 96)).alloc (.cells #[.int .i64 0] 2)) = W0 := ⟨_, rfl⟩
  have hb50 : Below w5.heap.size w5 W0 := by rw [← hW0]; exact (Joins.below_alloc3 w5 _ _ _).alloc (by first | (simp; done) | (simp; omega)) _
  have c9 : Blk W0 (w5.heap.size + 1) #[.int .i64 0] 3 := by
    rw [← hW0]
    exact Blk.alloc (Blk.alloc (heap_alloc2_new w5 _ _) _) _
  have c6 : Blk W0 (w5.heap.size + 1 + 1) M 96 := by
    rw [← hW0]
    have := heap_alloc_last ((w5.alloc (.cells M 96)).alloc (.cells #[.int .i64 0] 3)) (.cells M 96)
    simp only [World.size_alloc] at this
    exact Blk.alloc this _
  have c7 : Blk W0 (w5.heap.size + 1 + 1 + 1) #[.int .i64 0] 2 := by
    rw [← hW0]
    have := heap_alloc_last (((w5.alloc (.cells M 96)).alloc (.cells #[.int .i64 0] 3)).alloc (.cells M 96)) (.cells #[.int .i64 0] 2)
    simp only [World.size_alloc] at this
    exact this
  have cs : Blk W0 ps #[.slice (some ⟨g, 0, none⟩) N cap] 44 := Blk.below hpA hb50
  have hs0 : W0.heap.size = w5.heap.size + 4 := by rw [← hW0]; simp
  have ho0 := own_below HO5.out hb50
  have HB0 : Below w.heap.size w W0 := V5.out.trans (hb50.mono V5.out.size)
  rw [hW0]
  have hl5 := HL5.out
  have hV3 := V2.out.size
  clear hW0 hb50 hgg b2 hpA HW5 HPs HO5 HL5 HLe hN256
  obtain ⟨m9, hm9⟩ : ∃ m, w5.heap.size + 1 = m := ⟨_, rfl⟩
  obtain ⟨m8, hm8⟩ : ∃ m, w5.heap.size = m := ⟨_, rfl⟩
  rw [hm8] at hs0 hl5 hm9 c9 c6 c7 ⊢
  rw [hm9] at c9 c6 c7 ⊢
  clear hm8
  have hp98 : m9 = ps + 2 := by omega
  have hp0 : W0.heap.size = m9 + 3 := by omega
  clear hl5 hs0
  have hps2 : ps < m9 := by omega
  have hpsg : g < ps := hgl.2
  have hwg : w.heap.size ≤ g := by omega
  clear hp98 hgl
  refine wpIn_rangeFunc_ownH rfl (by omega) (gf := 131) (lb := #[.pointer (some ⟨m9 + 1 + 1, 0, none⟩), .pointer (some ⟨m9 + 1, 0, none⟩)]) rfl trivial (enters_of Tryd.func131 (by kernel_rfl) rfl)
    (spots_stops (gGrid A B hA1 hB1) M A B (m9 + 1) (m9 + 1 + 1) (by omega) (by omega) (by show 0 ≤ 2; omega) (by show A = A + 2 * 0; omega) (by show B = B + 2 * 0; omega) (fun W h => HM2.out W _ h) Fence.wide (6 - 1) trivial rfl (by omega) W0 c6 c7) two2_t (two2_b (by omega) (by omega)) (Below.refl _ _) (fun _ => rfl)
    (fun pre W => ((((Blk W (m9 + 1) M 96 ∧ Blk W (m9 + 1 + 1) #[.int .i64 0] 2) ∧ Blk W ps #[.slice (some ⟨g, 0, none⟩) N cap] 44) ∧ Blk W m9 #[.int .i64 ((szF gg pre : Nat) : Int)] 3) ∧ W.ownsRow w3.heap.size 29 2 (.slice (some ⟨g, 0, none⟩) N cap) N (flat2 L)) ∧ Below w.heap.size w W)
    (fun _ _ _ => False)
    (OwnFrom.and (OwnFrom.and (OwnFrom.and (OwnFrom.and (OwnFrom.and (Own.from (Blk.own _ _ _) _) (Own.from (Blk.own _ _ _) _)) (Own.from (Blk.own _ _ _) _)) (Own.from (BlkG.own m9 (fun pre => #[.int .i64 ((szF gg pre : Nat) : Int)]) 3) _)) (ownG_from w3.heap.size W0.heap.size g N cap (fun _ => flat2 L) (by omega))) (ownFrom_below (Nat.le_refl _) (by have := HB0.size; omega)))
    (fun _ _ _ _ _ hs _ _ => hs)
    ⟨⟨⟨⟨⟨c6, c7⟩, cs⟩, c9⟩, ho0⟩, HB0⟩
    (fun x a' W => ∃ Bx, m9 + 1 + 1 < Bx ∧ Blk W Bx #[.int .i64 x.1.1, .int .i64 x.1.2] 29 ∧ a' = { tmps := #[.pointer (some ⟨pc, 0, none⟩), .pointer (some ⟨pn, 0, none⟩), .pointer (some ⟨pa, 0, none⟩), .pointer (some ⟨pb, 0, none⟩), .int .i64 0, .pointer (some ⟨pt, 0, none⟩), .int .i64 (q : Int), .pointer (some ⟨ps, 0, none⟩), .pointer (some ⟨m8, 0, none⟩), .pointer (some ⟨m9, 0, none⟩), .pointer (some ⟨Bx, 0, none⟩), undef, .int .i64 (c : Int), .int .i64 (n : Int), .agg #[.int .i64 (c : Int), .int .i64 (n : Int)], .agg #[.int .i64 (c : Int), .int .i64 (n : Int)], .agg M0, .int .i64 (q : Int), .int .i64 ((a : Int) + 1), .int .i64 ((b : Int) + 1), .int .i64 (min (a : Int) (b : Int) + 1), .bool true, .bool true, .int .i64 ((a : Int) + 1), .int .i64 ((b : Int) + 1), .int .i64 (max (a : Int) (b : Int) + 1), .int .i64 (q : Int), .bool true, .bool true, .tuple #[], .agg #[.int .i64 (c : Int), .int .i64 (n : Int)], .slice (some ⟨g, 0, none⟩) N cap, .int .i64 (q : Int), .int .i64 ((a : Int) + 1), .int .i64 ((A : Int) - 1), .int .i64 (A : Int), .int .i64 (q : Int), .int .i64 ((b : Int) + 1), .int .i64 ((B : Int) - 1), .int .i64 (B : Int), .agg M, .agg M, .func (.func 131) #[] #[.pointer (some ⟨m9 + 1 + 1, 0, none⟩), .pointer (some ⟨m9 + 1, 0, none⟩)], .agg #[.int .i64 x.1.1, .int .i64 x.1.2], undef, undef, undef, undef, undef, undef, undef, undef, undef, undef, undef, undef, undef, undef, undef, undef, undef], defers := [] })
    (fun x a' s X Y row hs hg hrow => by
      obtain ⟨Bx, hBx, h2, he⟩ := hs
      exact ⟨Bx, hBx, Blk.own (β := Unit) _ _ _ () X Y row h2 hg (fun r e => (hrow r e).2), he⟩)
    ?assign ?body ?done ?stop
  case assign =>
    rintro l pre x W K ⟨⟨⟨⟨⟨b6, b7⟩, bs⟩, b9⟩, bO⟩, hB⟩ hK
    have hs := hB.size
    have hlt := b7.lt
    simp only [encP]
    gi_wp2
    exact hK _ _ ((KeepsOthers.alloc _ _).from _) (two2_below b6.lt b7.lt (Joins.below_alloc1 _ _)) ⟨⟨⟨⟨⟨b6.alloc _, b7.alloc _⟩, bs.alloc _⟩, b9.alloc _⟩, World.ownsRow.alloc bO _⟩, hB.alloc hs _⟩ ⟨W.heap.size, hlt, heap_alloc_last W _, rfl⟩
  case body =>
    rintro l pre xe a' WB hl' _ ⟨⟨⟨⟨⟨b6, b7⟩, bs⟩, b9⟩, bO⟩, hB⟩ ⟨Bx, hBx, h2, rfl⟩ hlt
    have hin := xe.2
    unfold InG at hin
    obtain ⟨x, hxn⟩ : ∃ k : Nat, xe.1.1 = k := ⟨xe.1.1.toNat, by omega⟩
    obtain ⟨y, hyn⟩ : ∃ k : Nat, xe.1.2 = k := ⟨xe.1.2.toNat, by omega⟩
    have hx : x < A := by omega
    have hy : y < B := by omega
    have hsn := HSn.out pre xe
    rw [show xe.1.1.toNat = x from by omega, show xe.1.2.toNat = y from by omega] at hsn
    have hacc := HSl.out pre
    have hplen : pre.length < B * A := hlt
    have hBA : B * A ≤ 256 := Nat.mul_le_mul (by omega : B ≤ 16) (by omega : A ≤ 16)
    have hgx := hG256 x y
    have hgxe := HBx.out x y
    obtain ⟨acc, hac⟩ : ∃ z, szF gg pre = z := ⟨_, rfl⟩
    obtain ⟨d, hd⟩ : ∃ z, gg x y = z := ⟨_, rfl⟩
    rw [hac, hd] at hsn
    rw [hac] at hacc b9
    rw [hd] at hgx hgxe
    rw [hxn, hyn] at h2 ⊢
    have kacc : IntKind.i64.wrap ((acc : Int) + (d : Int)) = (acc : Int) + (d : Int) := IntWalk.i64_in _ (by omega)
    have kwa : IntKind.i64.wrap (a : Int) = (a : Int) := IntWalk.i64_in _ (by omega)
    have kwb : IntKind.i64.wrap (b : Int) = (b : Int) := IntWalk.i64_in _ (by omega)
    have hSp : ∀ W, Below WB.heap.size WB W → Spots W g L := fun W hb => OwnS.spots (base := w3.heap.size) (n := L.length) (cap := cap) (by have h9 := own_below bO hb; rw [← HLn.out] at h9; exact h9)
    have hN256 : L.length ≤ 256 := by have := HLn.out; have := HLl.out; rw [‹L.length = N›, ‹N = q * q›]; exact Nat.mul_le_mul h16 h16
    have CIn : Hid (∀ W, Below WB.heap.size WB W → Calls Tryd.prog 74 #[.agg #[.int .i64 (x : Int), .int .i64 (y : Int), .int .i64 ((x : Int) + (a : Int)), .int .i64 ((y : Int) + (b : Int))], .slice (some ⟨g, 0, none⟩) N cap] W (fun e w' => ∃ v, e = .returned v ∧ SlN w' v (ixsV (fun i => inBx (x : Int) (y : Int) ((x : Int) + (a : Int)) ((y : Int) + (b : Int)) (L.getD i (0, 0))) L.length) ∧ Below W.heap.size W w')) := fun W hb => by
      have := indices_any g cap (x : Int) (y : Int) ((x : Int) + (a : Int)) ((y : Int) + (b : Int)) L W (hSp W hb) hN256
      rw [HLn.out] at this ⊢
      exact this.mono fun e w' ⟨v, h1, h2, h3⟩ => ⟨v, h1, h2.sl, h3⟩
    have CIv : Hid (∀ v W, SlN W v (ixsV (fun i => inBx (x : Int) (y : Int) ((x : Int) + (a : Int)) ((y : Int) + (b : Int)) (L.getD i (0, 0))) L.length) → Calls Tryd.prog 63 #[v] W (fun e w' => ∃ (ao : Option Addr) (cp : Nat), e = .returned (.slice ao d cp) ∧ Below W.heap.size W w')) := fun v W hv => by
      have hle := ixsV_len (fun i => inBx (x : Int) (y : Int) ((x : Int) + (a : Int)) ((y : Int) + (b : Int)) (L.getD i (0, 0))) L.length
      have := intervals_any v _ W hv (by omega) (fun i hi => by
        obtain ⟨j, h1, h2, _⟩ := ixs_at hi
        rw [h1]
        omega)
      rw [iv_eq] at this
      refine this.mono fun e w' ⟨u, us, h1, h2, h3⟩ => ?_
      obtain ⟨ao, cp, rfl⟩ := (OwnR.sl h2).form
      rw [← hgxe] at h1
      exact ⟨ao, cp, h1, h3⟩
    obtain ⟨X, hX⟩ : ∃ X, ixsV (fun i => inBx (x : Int) (y : Int) ((x : Int) + (a : Int)) ((y : Int) + (b : Int)) (L.getD i (0, 0))) L.length = X := ⟨_, rfl⟩
    rw [hX] at CIn CIv
    have CPl : Hid (∀ W, Calls Tryd.prog 73 #[.agg #[.int .i64 (x : Int), .int .i64 (y : Int)], .agg #[.int .i64 (a : Int), .int .i64 (b : Int)]] W (fun e w' => e = .returned (.agg #[.int .i64 ((x : Int) + (a : Int)), .int .i64 ((y : Int) + (b : Int))]) ∧ Below W.heap.size W w')) := fun W => plus_any (x : Int) (y : Int) (a : Int) (b : Int) W (by omega) (by omega) (by omega) (by omega)
    have HX : Hid (∀ W, Below WB.heap.size WB W → W.cell? ⟨Bx, 0, none⟩ = some (.int .i64 (x : Int)) ∧ W.cell? ⟨Bx, 1, none⟩ = some (.int .i64 (y : Int)) ∧ W.cell? ⟨pa, 0, none⟩ = some (.int .i64 ((a : Int) + 1)) ∧ W.cell? ⟨pb, 0, none⟩ = some (.int .i64 ((b : Int) + 1))) := fun W hb => ⟨cell_kept hb (by rw [Joins.cell_of_block h2 0]; rfl), cell_kept hb (by rw [Joins.cell_of_block h2 1]; rfl), (HP.out W (hB.trans (hb.mono hB.size))).2.2.1, (HP.out W (hB.trans (hb.mono hB.size))).2.2.2⟩
    have HY : Hid (∀ W, Below WB.heap.size WB W → W.cell? ⟨ps, 0, none⟩ = some (.slice (some ⟨g, 0, none⟩) N cap) ∧ W.cell? ⟨m9, 0, none⟩ = some (.int .i64 (acc : Int)) ∧ W.frozen? ⟨m9, 0, none⟩ = false) := fun W hb => ⟨cell_kept hb (cell_of_one bs), cell_kept hb (cell_of_one b9), free_of_one ((hb.block _ b9.lt).trans b9)⟩
    have HSq : Hid (szF gg (pre ++ [xe]) = acc + d) := hsn
    have G6 := Lib.hid b6
    have G7 := Lib.hid b7
    have Gs := Lib.hid bs
    have G9 := Lib.hid b9
    have GO := Lib.hid bO
    have GB := Lib.hid hB
    have hl0 := hB.size
    have hb9l := b9.lt
    clear hin b6 b7 bs b9 bO hB h2 hxn hyn c9 cs c6 c7 HB0 ho0 hsn hacc hplen hBA hgx hgxe hac hd hX hSp hN256 hx hy
    apply wpIn_block
    apply wpIn_seq
    refine wpIn_region_inv_at (by kernel_rfl) (by intro o ho; simp at ho; rcases ho with rfl | rfl | rfl | rfl | rfl | rfl | rfl | rfl | rfl | rfl | rfl <;> rfl) (fun A0 L A W => ∃ (b0 b1 b2 b3 b4 b5 b6 b7 b8 b9 b10 : Bool) (v44 v45 v46 v47 v48 v49 v50 v51 v52 v11 : Value), L = #[b0, b1, b2, b3, b4, b5, b6, b7, b8, b9, b10] ∧ A = ((((((((((A0.put (some 44) v44).put (some 45) v45).put (some 46) v46).put (some 47) v47).put (some 48) v48).put (some 49) v49).put (some 50) v50).put (some 51) v51).put (some 52) v52).put (some 11) v11) ∧ (Below WB.heap.size WB W) ∧ Hid (b0 = true → v44 = .agg #[.int .i64 (x : Int), .int .i64 (y : Int)]) ∧ Hid (b1 = true → v45 = .agg #[.int .i64 (x : Int), .int .i64 (y : Int)]) ∧ Hid (b2 = true → v46 = .int .i64 ((a : Int) + 1)) ∧ Hid (b3 = true → v47 = .int .i64 (a : Int)) ∧ Hid (b4 = true → v48 = .int .i64 ((b : Int) + 1)) ∧ Hid (b5 = true → v49 = .int .i64 (b : Int)) ∧ Hid (b6 = true → v50 = .agg #[.int .i64 (a : Int), .int .i64 (b : Int)]) ∧ Hid (b7 = true → v51 = .agg #[.int .i64 ((x : Int) + (a : Int)), .int .i64 ((y : Int) + (b : Int))]) ∧ Hid (b8 = true → v52 = .agg #[.int .i64 (x : Int), .int .i64 (y : Int), .int .i64 ((x : Int) + (a : Int)), .int .i64 ((y : Int) + (b : Int))]) ∧ Hid (b9 = true → ∃ mb, v11 = .pointer (some ⟨mb, 0, none⟩) ∧ WB.heap.size ≤ mb ∧ W.heap[mb]? = some (.cells (if b10 = true then #[.int .i64 (x : Int), .int .i64 (y : Int), .int .i64 ((x : Int) + (a : Int)), .int .i64 ((y : Int) + (b : Int))] else #[.int .i64 0, .int .i64 0, .int .i64 0, .int .i64 0]) 91 (0, 0))) ∧ Hid (b9 = false → b10 = false)) ?_ ?_ ?_
    · intro A0
      refine ⟨false, false, false, false, false, false, false, false, false, false, false, A0.tmps.getD 44 undef, A0.tmps.getD 45 undef, A0.tmps.getD 46 undef, A0.tmps.getD 47 undef, A0.tmps.getD 48 undef, A0.tmps.getD 49 undef, A0.tmps.getD 50 undef, A0.tmps.getD 51 undef, A0.tmps.getD 52 undef, A0.tmps.getD 11 undef, rfl, (by simp only [put_self]), (Below.refl _ _).drew, Lib.hid (fun hf => by cases hf), Lib.hid (fun hf => by cases hf), Lib.hid (fun hf => by cases hf), Lib.hid (fun hf => by cases hf), Lib.hid (fun hf => by cases hf), Lib.hid (fun hf => by cases hf), Lib.hid (fun hf => by cases hf), Lib.hid (fun hf => by cases hf), Lib.hid (fun hf => by cases hf), Lib.hid (fun hf => by cases hf), Lib.hid (fun _ => rfl)⟩
    · intro L A W hI i hi o ho K' hK
      have hlt := (ready_left hi).1
      have hun := (ready_left hi).2
      have haf := ready_after hi ho
      clear hi
      obtain ⟨b0, b1, b2, b3, b4, b5, b6, b7, b8, b9, b10, v44, v45, v46, v47, v48, v49, v50, v51, v52, v11, rfl, rfl, hB, h0, h1, h2, h3, h4, h5, h6, h7, h8, h9, n9⟩ := hI
      have hc : i = 0 ∨ i = 1 ∨ i = 2 ∨ i = 3 ∨ i = 4 ∨ i = 5 ∨ i = 6 ∨ i = 7 ∨ i = 8 ∨ i = 9 ∨ i = 10 := by
        simp at hlt
        omega
      have qq := HX.out W hB
      obtain ⟨q0, q1, q2, q3⟩ := qq
      rcases hc with rfl | rfl | rfl | rfl | rfl | rfl | rfl | rfl | rfl | rfl | rfl
      all_goals (obtain rfl := Option.some.inj ho; clear ho; simp [Region.binds] at haf hun; (try simp only [List.getElem_toArray, List.getElem_cons_zero, List.getElem_cons_succ]); simp only [Act.put, List.setIfInBounds_toArray, List.set_cons_zero, List.set_cons_succ])
      · -- operation 0
        replace hK := Lib.hid hK
        subst hun
        go_simp
        exact hK.out _ _ ⟨true, b1, b2, b3, b4, b5, b6, b7, b8, b9, b10, .agg #[.int .i64 (x : Int), .int .i64 (y : Int)], v45, v46, v47, v48, v49, v50, v51, v52, v11, rfl, (by simp only [Act.put, List.setIfInBounds_toArray, List.set_cons_zero, List.set_cons_succ]), hB, Lib.hid (fun _ => rfl), h1, h2, h3, h4, h5, h6, h7, h8, h9, n9⟩
      · -- operation 1
        replace hK := Lib.hid hK
        subst hun
        go_simp
        exact hK.out _ _ ⟨b0, true, b2, b3, b4, b5, b6, b7, b8, b9, b10, v44, .agg #[.int .i64 (x : Int), .int .i64 (y : Int)], v46, v47, v48, v49, v50, v51, v52, v11, rfl, (by simp only [Act.put, List.setIfInBounds_toArray, List.set_cons_zero, List.set_cons_succ]), hB, h0, Lib.hid (fun _ => rfl), h2, h3, h4, h5, h6, h7, h8, h9, n9⟩
      · -- operation 2
        replace hK := Lib.hid hK
        subst hun
        go_simp
        exact hK.out _ _ ⟨b0, b1, true, b3, b4, b5, b6, b7, b8, b9, b10, v44, v45, .int .i64 ((a : Int) + 1), v47, v48, v49, v50, v51, v52, v11, rfl, (by simp only [Act.put, List.setIfInBounds_toArray, List.set_cons_zero, List.set_cons_succ]), hB, h0, h1, Lib.hid (fun _ => rfl), h3, h4, h5, h6, h7, h8, h9, n9⟩
      · -- operation 3
        replace hK := Lib.hid hK
        obtain rfl := (h2.out (by simp only [haf])).symm
        subst hun
        go_simp
        exact hK.out _ _ ⟨b0, b1, b2, true, b4, b5, b6, b7, b8, b9, b10, v44, v45, .int .i64 ((a : Int) + 1), .int .i64 (a : Int), v48, v49, v50, v51, v52, v11, rfl, (by simp only [Act.put, List.setIfInBounds_toArray, List.set_cons_zero, List.set_cons_succ]), hB, h0, h1, Lib.hid (fun _ => rfl), Lib.hid (fun _ => rfl), h4, h5, h6, h7, h8, h9, n9⟩
      · -- operation 4
        replace hK := Lib.hid hK
        subst hun
        go_simp
        exact hK.out _ _ ⟨b0, b1, b2, b3, true, b5, b6, b7, b8, b9, b10, v44, v45, v46, v47, .int .i64 ((b : Int) + 1), v49, v50, v51, v52, v11, rfl, (by simp only [Act.put, List.setIfInBounds_toArray, List.set_cons_zero, List.set_cons_succ]), hB, h0, h1, h2, h3, Lib.hid (fun _ => rfl), h5, h6, h7, h8, h9, n9⟩
      · -- operation 5
        replace hK := Lib.hid hK
        obtain rfl := (h4.out (by simp only [haf])).symm
        subst hun
        go_simp
        exact hK.out _ _ ⟨b0, b1, b2, b3, b4, true, b6, b7, b8, b9, b10, v44, v45, v46, v47, .int .i64 ((b : Int) + 1), .int .i64 (b : Int), v50, v51, v52, v11, rfl, (by simp only [Act.put, List.setIfInBounds_toArray, List.set_cons_zero, List.set_cons_succ]), hB, h0, h1, h2, h3, Lib.hid (fun _ => rfl), Lib.hid (fun _ => rfl), h6, h7, h8, h9, n9⟩
      · -- operation 6
        replace hK := Lib.hid hK
        obtain rfl := (h3.out (by simp only [haf])).symm
        obtain rfl := (h5.out (by simp only [haf])).symm
        subst hun
        go_simp
        exact hK.out _ _ ⟨b0, b1, b2, b3, b4, b5, true, b7, b8, b9, b10, v44, v45, v46, .int .i64 (a : Int), v48, .int .i64 (b : Int), .agg #[.int .i64 (a : Int), .int .i64 (b : Int)], v51, v52, v11, rfl, (by simp only [Act.put, List.setIfInBounds_toArray, List.set_cons_zero, List.set_cons_succ]), hB, h0, h1, h2, Lib.hid (fun _ => rfl), h4, Lib.hid (fun _ => rfl), Lib.hid (fun _ => rfl), h7, h8, h9, n9⟩
      · -- operation 7
        replace hK := Lib.hid hK
        obtain rfl := (h1.out (by simp only [haf])).symm
        obtain rfl := (h6.out (by simp only [haf])).symm
        subst hun
        go_simp
        refine ⟨trivial, ?_⟩
        refine (CallsIn.inRound l (callsIn_wide.2 (CPl.out W))).mono ?_
        rintro e W' ⟨rfl, hb⟩
        have hkept := fun kb (hk : kb < W.heap.size) => hb.block kb hk
        exact hK.out _ _ ⟨b0, b1, b2, b3, b4, b5, b6, true, b8, b9, b10, v44, .agg #[.int .i64 (x : Int), .int .i64 (y : Int)], v46, v47, v48, v49, .agg #[.int .i64 (a : Int), .int .i64 (b : Int)], .agg #[.int .i64 ((x : Int) + (a : Int)), .int .i64 ((y : Int) + (b : Int))], v52, v11, rfl, (by simp only [Act.put, List.setIfInBounds_toArray, List.set_cons_zero, List.set_cons_succ]), hB.trans (hb.mono hB.size), h0, Lib.hid (fun _ => rfl), h2, h3, h4, h5, Lib.hid (fun _ => rfl), Lib.hid (fun _ => rfl), h8, Lib.hid (fun hx => by obtain ⟨kb, e1, e2, e3⟩ := h9.out hx; exact ⟨kb, e1, e2, (hkept kb (Array.getElem?_eq_some_iff.1 e3).1).trans e3⟩), n9⟩
      · -- operation 8
        replace hK := Lib.hid hK
        obtain rfl := (h0.out (by simp only [haf])).symm
        obtain rfl := (h7.out (by simp only [haf])).symm
        subst hun
        go_simp
        exact hK.out _ _ ⟨b0, b1, b2, b3, b4, b5, b6, b7, true, b9, b10, .agg #[.int .i64 (x : Int), .int .i64 (y : Int)], v45, v46, v47, v48, v49, v50, .agg #[.int .i64 ((x : Int) + (a : Int)), .int .i64 ((y : Int) + (b : Int))], .agg #[.int .i64 (x : Int), .int .i64 (y : Int), .int .i64 ((x : Int) + (a : Int)), .int .i64 ((y : Int) + (b : Int))], v11, rfl, (by simp only [Act.put, List.setIfInBounds_toArray, List.set_cons_zero, List.set_cons_succ]), hB, Lib.hid (fun _ => rfl), h1, h2, h3, h4, h5, h6, Lib.hid (fun _ => rfl), Lib.hid (fun _ => rfl), h9, n9⟩
      · -- operation 9
        replace hK := Lib.hid hK
        subst hun
        have hbs : b10 = false := n9.out rfl
        subst hbs
        go_simp
        have hkept := fun kb (hk : kb < W.heap.size) => Below.heap_alloc W (.cells #[.int .i64 0, .int .i64 0, .int .i64 0, .int .i64 0] 91) kb hk
        have hb := Joins.below_alloc1 W (.cells #[.int .i64 0, .int .i64 0, .int .i64 0, .int .i64 0] 91)
        exact hK.out _ _ ⟨b0, b1, b2, b3, b4, b5, b6, b7, b8, true, false, v44, v45, v46, v47, v48, v49, v50, v51, v52, .pointer (some ⟨W.heap.size, 0, none⟩), rfl, (by simp only [Act.put, List.setIfInBounds_toArray, List.set_cons_zero, List.set_cons_succ]), hB.alloc hB.size _, h0, h1, h2, h3, h4, h5, h6, h7, h8, Lib.hid (fun _ => ⟨_, rfl, hB.size, heap_alloc_last W _⟩), Lib.hid (fun hf => by cases hf)⟩
      · -- operation 10
        replace hK := Lib.hid hK
        obtain rfl := (h8.out (by simp only [haf])).symm
        obtain ⟨mb, rfl, hmb, hm2⟩ := h9.out (by simp only [haf])
        subst hun
        have hv0 : W.heap[mb]? = some (.cells #[.int .i64 0, .int .i64 0, .int .i64 0, .int .i64 0] 91 (0, 0)) := by simpa using hm2
        have kc0 : (W).cell? ⟨mb, 0, none⟩ = some (.int .i64 0) := by rw [Joins.cell_of_block hv0 0]; rfl
        have kf0 : (W).frozen? ⟨mb, 0, none⟩ = false := Joins.unfrozen_of_block hv0 0
        have hv1 := Joins.block_setCell hv0 (.int .i64 (x : Int)) (i := 0)
        have kc1 : ((W).setCell ⟨mb, 0, none⟩ (.int .i64 (x : Int))).cell? ⟨mb, 1, none⟩ = some (.int .i64 0) := by rw [Joins.cell_of_block hv1 1]; rfl
        have kf1 : ((W).setCell ⟨mb, 0, none⟩ (.int .i64 (x : Int))).frozen? ⟨mb, 1, none⟩ = false := Joins.unfrozen_of_block hv1 1
        have hv2 := Joins.block_setCell hv1 (.int .i64 (y : Int)) (i := 1)
        have kc2 : (((W).setCell ⟨mb, 0, none⟩ (.int .i64 (x : Int))).setCell ⟨mb, 1, none⟩ (.int .i64 (y : Int))).cell? ⟨mb, 2, none⟩ = some (.int .i64 0) := by rw [Joins.cell_of_block hv2 2]; rfl
        have kf2 : (((W).setCell ⟨mb, 0, none⟩ (.int .i64 (x : Int))).setCell ⟨mb, 1, none⟩ (.int .i64 (y : Int))).frozen? ⟨mb, 2, none⟩ = false := Joins.unfrozen_of_block hv2 2
        have hv3 := Joins.block_setCell hv2 (.int .i64 ((x : Int) + (a : Int))) (i := 2)
        have kc3 : ((((W).setCell ⟨mb, 0, none⟩ (.int .i64 (x : Int))).setCell ⟨mb, 1, none⟩ (.int .i64 (y : Int))).setCell ⟨mb, 2, none⟩ (.int .i64 ((x : Int) + (a : Int)))).cell? ⟨mb, 3, none⟩ = some (.int .i64 0) := by rw [Joins.cell_of_block hv3 3]; rfl
        have kf3 : ((((W).setCell ⟨mb, 0, none⟩ (.int .i64 (x : Int))).setCell ⟨mb, 1, none⟩ (.int .i64 (y : Int))).setCell ⟨mb, 2, none⟩ (.int .i64 ((x : Int) + (a : Int)))).frozen? ⟨mb, 3, none⟩ = false := Joins.unfrozen_of_block hv3 3
        have hv4 := Joins.block_setCell hv3 (.int .i64 ((y : Int) + (b : Int))) (i := 3)
        have hnew : (((((W).setCell ⟨mb, 0, none⟩ (.int .i64 (x : Int))).setCell ⟨mb, 1, none⟩ (.int .i64 (y : Int))).setCell ⟨mb, 2, none⟩ (.int .i64 ((x : Int) + (a : Int)))).setCell ⟨mb, 3, none⟩ (.int .i64 ((y : Int) + (b : Int)))).heap[mb]? = some (.cells #[.int .i64 (x : Int), .int .i64 (y : Int), .int .i64 ((x : Int) + (a : Int)), .int .i64 ((y : Int) + (b : Int))] 91 (0, 0)) := hv4
        have hBn := ((((hB.setCell (p := ⟨mb, 0, none⟩) hmb (.int .i64 (x : Int))).setCell (p := ⟨mb, 1, none⟩) hmb (.int .i64 (y : Int))).setCell (p := ⟨mb, 2, none⟩) hmb (.int .i64 ((x : Int) + (a : Int)))).setCell (p := ⟨mb, 3, none⟩) hmb (.int .i64 ((y : Int) + (b : Int))))
        have hoth : ∀ kb, kb ≠ mb → (((((W).setCell ⟨mb, 0, none⟩ (.int .i64 (x : Int))).setCell ⟨mb, 1, none⟩ (.int .i64 (y : Int))).setCell ⟨mb, 2, none⟩ (.int .i64 ((x : Int) + (a : Int)))).setCell ⟨mb, 3, none⟩ (.int .i64 ((y : Int) + (b : Int)))).heap[kb]? = W.heap[kb]? := fun kb hk => (((Below.heap_setCell _ _ _ _ hk).trans (Below.heap_setCell _ _ _ _ hk)).trans (Below.heap_setCell _ _ _ _ hk)).trans (Below.heap_setCell _ _ _ _ hk)
        clear hv0 hv1 hv2 hv3 hv4
        go_simp
        exact hK.out _ _ ⟨b0, b1, b2, b3, b4, b5, b6, b7, b8, b9, true, v44, v45, v46, v47, v48, v49, v50, v51, .agg #[.int .i64 (x : Int), .int .i64 (y : Int), .int .i64 ((x : Int) + (a : Int)), .int .i64 ((y : Int) + (b : Int))], .pointer (some ⟨mb, 0, none⟩), rfl, (by simp only [Act.put, List.setIfInBounds_toArray, List.set_cons_zero, List.set_cons_succ]), hBn, h0, h1, h2, h3, h4, h5, h6, h7, Lib.hid (fun _ => rfl), Lib.hid (fun _ => ⟨mb, rfl, hmb, hnew⟩), Lib.hid (fun hf => absurd (show false = true from hf.symm.trans (by simp only [haf])) (by decide))⟩
    intro L A W hI hr
    obtain ⟨b0, b1, b2, b3, b4, b5, b6, b7, b8, b9, b10, v44, v45, v46, v47, v48, v49, v50, v51, v52, v11, rfl, rfl, hB, h0, h1, h2, h3, h4, h5, h6, h7, h8, h9, n9⟩ := hI
    have d0 := ready_done hr 0 _ rfl (by simp [Region.binds])
    have d1 := ready_done hr 1 _ rfl (by simp [Region.binds])
    have d2 := ready_done hr 2 _ rfl (by simp [Region.binds])
    have d4 := ready_done hr 4 _ rfl (by simp [Region.binds])
    have d9 := ready_done hr 9 _ rfl (by simp [Region.binds])
    simp at d0 d1 d2 d4 d9
    subst d0 d1 d2 d4 d9
    have d3 := ready_done hr 3 _ rfl (by simp [Region.binds])
    have d5 := ready_done hr 5 _ rfl (by simp [Region.binds])
    simp at d3 d5
    subst d3 d5
    have d6 := ready_done hr 6 _ rfl (by simp [Region.binds])
    simp at d6
    subst d6
    have d7 := ready_done hr 7 _ rfl (by simp [Region.binds])
    simp at d7
    subst d7
    have d8 := ready_done hr 8 _ rfl (by simp [Region.binds])
    simp at d8
    subst d8
    have d10 := ready_done hr 10 _ rfl (by simp [Region.binds])
    simp at d10
    subst d10
    obtain rfl := (h0.out rfl).symm
    obtain rfl := (h1.out rfl).symm
    obtain rfl := (h2.out rfl).symm
    obtain rfl := (h3.out rfl).symm
    obtain rfl := (h4.out rfl).symm
    obtain rfl := (h5.out rfl).symm
    obtain rfl := (h6.out rfl).symm
    obtain rfl := (h7.out rfl).symm
    obtain rfl := (h8.out rfl).symm
    obtain ⟨mb9, rfl, hmb9, hm9⟩ := h9.out rfl
    simp only [Act.put, List.setIfInBounds_toArray, List.set_cons_zero, List.set_cons_succ]
    clear hr h0 h1 h2 h3 h4 h5 h6 h7 h8 h9 n9
    have hm11 : W.heap[mb9]? = some (.cells #[.int .i64 (x : Int), .int .i64 (y : Int), .int .i64 ((x : Int) + (a : Int)), .int .i64 ((y : Int) + (b : Int))] 91 (0, 0)) := by simpa using hm9
    have HB9 := Lib.hid hB
    have HMb := Lib.hid hm11
    revert HB9 HMb
    clear hB hm9 hm11 hmb9
    generalize W = W9
    intro HB9 HMb
    have HZ : Hid (∀ W, Below W9.heap.size W9 W → (W.cell? ⟨mb9, 0, none⟩ = some (.int .i64 (x : Int)) ∧ W.cell? ⟨mb9, 1, none⟩ = some (.int .i64 (y : Int)) ∧ W.cell? ⟨mb9, 2, none⟩ = some (.int .i64 ((x : Int) + (a : Int))) ∧ W.cell? ⟨mb9, 3, none⟩ = some (.int .i64 ((y : Int) + (b : Int)))) ∧ W.cell? ⟨ps, 0, none⟩ = some (.slice (some ⟨g, 0, none⟩) N cap) ∧ W.cell? ⟨m9, 0, none⟩ = some (.int .i64 (acc : Int)) ∧ W.frozen? ⟨m9, 0, none⟩ = false) := fun W hb =>
      ⟨⟨cell_kept hb (by rw [Joins.cell_of_block HMb.out 0]; rfl), cell_kept hb (by rw [Joins.cell_of_block HMb.out 1]; rfl), cell_kept hb (by rw [Joins.cell_of_block HMb.out 2]; rfl), cell_kept hb (by rw [Joins.cell_of_block HMb.out 3]; rfl)⟩, HY.out W (HB9.out.trans (hb.mono HB9.out.size))⟩
    have CI9 : Hid (∀ W, Below W9.heap.size W9 W → Calls Tryd.prog 74 #[.agg #[.int .i64 (x : Int), .int .i64 (y : Int), .int .i64 ((x : Int) + (a : Int)), .int .i64 ((y : Int) + (b : Int))], .slice (some ⟨g, 0, none⟩) N cap] W (fun e w' => ∃ (ax : Option Addr) (cx : Nat), e = .returned (.slice ax X.length cx) ∧ SlN w' (.slice ax X.length cx) X ∧ Below W.heap.size W w')) := fun W hb => (CIn.out W (HB9.out.trans (hb.mono HB9.out.size))).mono fun e w' ⟨v, h1, h2, h3⟩ => by
      obtain ⟨ax, cx, rfl⟩ := slN_form h2
      exact ⟨ax, cx, h1, h2, h3⟩
    clear HX HY CIn CPl HMb
    show Code.wpIn _ _ _ _ _ _ _
    refine wpIn_region_inv_at (by kernel_rfl) (by intro o ho; simp at ho; rcases ho with rfl | rfl | rfl | rfl | rfl | rfl | rfl | rfl <;> rfl) (fun A0 L A W => ∃ (b0 b1 b2 b3 b4 b5 b6 b7 : Bool) (v53 v54 v55 v56 v57 v58 v59 : Value), L = #[b0, b1, b2, b3, b4, b5, b6, b7] ∧ A = (((((((A0.put (some 53) v53).put (some 54) v54).put (some 55) v55).put (some 56) v56).put (some 57) v57).put (some 58) v58).put (some 59) v59) ∧ (∃ Wp, Below W9.heap.size W9 Wp ∧ W = (if b7 = true then Wp.setCell ⟨m9, 0, none⟩ (.int .i64 ((acc : Int) + (d : Int))) else Wp)) ∧ Hid (b0 = true → v53 = .int .i64 (acc : Int)) ∧ Hid (b1 = true → v54 = .agg #[.int .i64 (x : Int), .int .i64 (y : Int), .int .i64 ((x : Int) + (a : Int)), .int .i64 ((y : Int) + (b : Int))]) ∧ Hid (b2 = true → v55 = .slice (some ⟨g, 0, none⟩) N cap) ∧ Hid (b3 = true → b4 = false → ∃ ax cx, v56 = .slice ax X.length cx ∧ SlN W (.slice ax X.length cx) X) ∧ Hid (b4 = true → b5 = false → ∃ ao cp, v57 = .slice ao d cp ∧ True) ∧ Hid (b5 = true → v58 = .int .i64 (d : Int)) ∧ Hid (b6 = true → v59 = .int .i64 ((acc : Int) + (d : Int))) ∧ Hid ((b0 = false → b7 = false) ∧ (b1 = false → b7 = false) ∧ (b2 = false → b7 = false) ∧ (b3 = false → b7 = false) ∧ (b4 = false → b7 = false) ∧ (b5 = false → b7 = false) ∧ (b6 = false → b7 = false))) ?_ ?_ ?_
    · intro A0
      refine ⟨false, false, false, false, false, false, false, false, A0.tmps.getD 53 undef, A0.tmps.getD 54 undef, A0.tmps.getD 55 undef, A0.tmps.getD 56 undef, A0.tmps.getD 57 undef, A0.tmps.getD 58 undef, A0.tmps.getD 59 undef, rfl, (by simp only [put_self]), ⟨_, (Below.refl _ _).drew, rfl⟩, Lib.hid (fun hf => by cases hf), Lib.hid (fun hf => by cases hf), Lib.hid (fun hf => by cases hf), Lib.hid (fun hf => by cases hf), Lib.hid (fun hf => by cases hf), Lib.hid (fun hf => by cases hf), Lib.hid (fun hf => by cases hf), Lib.hid ⟨fun _ => rfl, fun _ => rfl, fun _ => rfl, fun _ => rfl, fun _ => rfl, fun _ => rfl, fun _ => rfl⟩⟩
    · intro L A W hI i hi o ho K' hK
      have hlt := (ready_left hi).1
      have hun := (ready_left hi).2
      have haf := ready_after hi ho
      clear hi
      obtain ⟨b0, b1, b2, b3, b4, b5, b6, b7, v53, v54, v55, v56, v57, v58, v59, rfl, rfl, hB, h0, h1, h2, h3, h4, h5, h6, p⟩ := hI
      have hc : i = 0 ∨ i = 1 ∨ i = 2 ∨ i = 3 ∨ i = 4 ∨ i = 5 ∨ i = 6 ∨ i = 7 := by
        simp at hlt
        omega
      rcases hc with rfl | rfl | rfl | rfl | rfl | rfl | rfl | rfl
      all_goals (obtain rfl := Option.some.inj ho; clear ho; simp [Region.binds] at haf hun; (try simp only [List.getElem_toArray, List.getElem_cons_zero, List.getElem_cons_succ]); simp only [Act.put, List.setIfInBounds_toArray, List.set_cons_zero, List.set_cons_succ])
      · -- operation 0
        replace hK := Lib.hid hK
        have hlast : b7 = false := p.out.1 hun
        subst hlast
        obtain ⟨Wp, hB, hWp⟩ := hB
        have hWq : W = Wp := by simpa using hWp
        clear hWp
        subst hWq
        have qq := HZ.out W hB
        obtain ⟨⟨q0, q1, q2, q3⟩, q4, q5, q6⟩ := qq
        subst hun
        go_simp
        exact hK.out _ _ ⟨true, b1, b2, b3, b4, b5, b6, false, .int .i64 (acc : Int), v54, v55, v56, v57, v58, v59, rfl, (by simp only [Act.put, List.setIfInBounds_toArray, List.set_cons_zero, List.set_cons_succ]), ⟨_, hB, rfl⟩, Lib.hid (fun _ => rfl), h1, h2, h3, h4, h5, h6, Lib.hid ⟨(fun hf => by cases hf), (fun _ => rfl), (fun _ => rfl), (fun _ => rfl), (fun _ => rfl), (fun _ => rfl), (fun _ => rfl)⟩⟩
      · -- operation 1
        replace hK := Lib.hid hK
        have hlast : b7 = false := p.out.2.1 hun
        subst hlast
        obtain ⟨Wp, hB, hWp⟩ := hB
        have hWq : W = Wp := by simpa using hWp
        clear hWp
        subst hWq
        have qq := HZ.out W hB
        obtain ⟨⟨q0, q1, q2, q3⟩, q4, q5, q6⟩ := qq
        subst hun
        go_simp
        exact hK.out _ _ ⟨b0, true, b2, b3, b4, b5, b6, false, v53, .agg #[.int .i64 (x : Int), .int .i64 (y : Int), .int .i64 ((x : Int) + (a : Int)), .int .i64 ((y : Int) + (b : Int))], v55, v56, v57, v58, v59, rfl, (by simp only [Act.put, List.setIfInBounds_toArray, List.set_cons_zero, List.set_cons_succ]), ⟨_, hB, rfl⟩, h0, Lib.hid (fun _ => rfl), h2, h3, h4, h5, h6, Lib.hid ⟨(fun _ => rfl), (fun hf => by cases hf), (fun _ => rfl), (fun _ => rfl), (fun _ => rfl), (fun _ => rfl), (fun _ => rfl)⟩⟩
      · -- operation 2
        replace hK := Lib.hid hK
        have hlast : b7 = false := p.out.2.2.1 hun
        subst hlast
        obtain ⟨Wp, hB, hWp⟩ := hB
        have hWq : W = Wp := by simpa using hWp
        clear hWp
        subst hWq
        have qq := HZ.out W hB
        obtain ⟨⟨q0, q1, q2, q3⟩, q4, q5, q6⟩ := qq
        subst hun
        go_simp
        exact hK.out _ _ ⟨b0, b1, true, b3, b4, b5, b6, false, v53, v54, .slice (some ⟨g, 0, none⟩) N cap, v56, v57, v58, v59, rfl, (by simp only [Act.put, List.setIfInBounds_toArray, List.set_cons_zero, List.set_cons_succ]), ⟨_, hB, rfl⟩, h0, h1, Lib.hid (fun _ => rfl), h3, h4, h5, h6, Lib.hid ⟨(fun _ => rfl), (fun _ => rfl), (fun hf => by cases hf), (fun _ => rfl), (fun _ => rfl), (fun _ => rfl), (fun _ => rfl)⟩⟩
      · -- operation 3
        replace hK := Lib.hid hK
        have hlast : b7 = false := p.out.2.2.2.1 hun
        subst hlast
        obtain ⟨Wp, hB, hWp⟩ := hB
        have hWq : W = Wp := by simpa using hWp
        clear hWp
        subst hWq
        have qq := HZ.out W hB
        obtain ⟨⟨q0, q1, q2, q3⟩, q4, q5, q6⟩ := qq
        obtain rfl := (h1.out (by simp only [haf])).symm
        obtain rfl := (h2.out (by simp only [haf])).symm
        subst hun
        go_simp
        refine ⟨trivial, ?_⟩
        refine (CallsIn.inRound l (callsIn_wide.2 (CI9.out W hB))).mono ?_
        rintro e W' ⟨ax, cx, rfl, hvx, hb⟩
        have hkept := fun kb (hk : kb < W.heap.size) => hb.block kb hk
        exact hK.out _ _ ⟨b0, b1, b2, true, b4, b5, b6, false, v53, .agg #[.int .i64 (x : Int), .int .i64 (y : Int), .int .i64 ((x : Int) + (a : Int)), .int .i64 ((y : Int) + (b : Int))], .slice (some ⟨g, 0, none⟩) N cap, .slice ax X.length cx, v57, v58, v59, rfl, (by simp only [Act.put, List.setIfInBounds_toArray, List.set_cons_zero, List.set_cons_succ]), ⟨_, hB.trans (hb.mono hB.size), rfl⟩, h0, Lib.hid (fun _ => rfl), Lib.hid (fun _ => rfl), Lib.hid (fun _ _ => ⟨ax, cx, rfl, hvx⟩), Lib.hid (fun hx hu => by obtain ⟨ao, cp, e1, fx⟩ := h4.out hx hu; exact ⟨ao, cp, e1, trivial⟩), h5, h6, Lib.hid ⟨(fun _ => rfl), (fun _ => rfl), (fun _ => rfl), (fun hf => by cases hf), (fun _ => rfl), (fun _ => rfl), (fun _ => rfl)⟩⟩
      · -- operation 4
        replace hK := Lib.hid hK
        have hlast : b7 = false := p.out.2.2.2.2.1 hun
        subst hlast
        obtain ⟨Wp, hB, hWp⟩ := hB
        have hWq : W = Wp := by simpa using hWp
        clear hWp
        subst hWq
        have qq := HZ.out W hB
        obtain ⟨⟨q0, q1, q2, q3⟩, q4, q5, q6⟩ := qq
        obtain ⟨ax, cx, rfl, fvx⟩ := h3.out (by simp only [haf]) (by first | exact hun | simp only [haf])
        subst hun
        go_simp
        refine ⟨trivial, ?_⟩
        refine (CallsIn.inRound l (callsIn_wide.2 (CIv.out _ W fvx))).mono ?_
        rintro e W' ⟨ao, cp, rfl, hb⟩
        have hkept := fun kb (hk : kb < W.heap.size) => hb.block kb hk
        exact hK.out _ _ ⟨b0, b1, b2, b3, true, b5, b6, false, v53, v54, v55, .slice ax X.length cx, .slice ao d cp, v58, v59, rfl, (by simp only [Act.put, List.setIfInBounds_toArray, List.set_cons_zero, List.set_cons_succ]), ⟨_, hB.trans (hb.mono hB.size), rfl⟩, h0, h1, h2, Lib.hid (fun _ hu => by cases hu), Lib.hid (fun _ _ => ⟨ao, cp, rfl, trivial⟩), h5, h6, Lib.hid ⟨(fun _ => rfl), (fun _ => rfl), (fun _ => rfl), (fun _ => rfl), (fun hf => by cases hf), (fun _ => rfl), (fun _ => rfl)⟩⟩
      · -- operation 5
        replace hK := Lib.hid hK
        have hlast : b7 = false := p.out.2.2.2.2.2.1 hun
        subst hlast
        obtain ⟨Wp, hB, hWp⟩ := hB
        have hWq : W = Wp := by simpa using hWp
        clear hWp
        subst hWq
        have qq := HZ.out W hB
        obtain ⟨⟨q0, q1, q2, q3⟩, q4, q5, q6⟩ := qq
        obtain ⟨ao, cp, rfl, ftr⟩ := h4.out (by simp only [haf]) (by first | exact hun | simp only [haf])
        subst hun
        go_simp
        exact hK.out _ _ ⟨b0, b1, b2, b3, b4, true, b6, false, v53, v54, v55, v56, .slice ao d cp, .int .i64 (d : Int), v59, rfl, (by simp only [Act.put, List.setIfInBounds_toArray, List.set_cons_zero, List.set_cons_succ]), ⟨_, hB, rfl⟩, h0, h1, h2, h3, Lib.hid (fun _ hu => by cases hu), Lib.hid (fun _ => rfl), h6, Lib.hid ⟨(fun _ => rfl), (fun _ => rfl), (fun _ => rfl), (fun _ => rfl), (fun _ => rfl), (fun hf => by cases hf), (fun _ => rfl)⟩⟩
      · -- operation 6
        replace hK := Lib.hid hK
        have hlast : b7 = false := p.out.2.2.2.2.2.2 hun
        subst hlast
        obtain ⟨Wp, hB, hWp⟩ := hB
        have hWq : W = Wp := by simpa using hWp
        clear hWp
        subst hWq
        have qq := HZ.out W hB
        obtain ⟨⟨q0, q1, q2, q3⟩, q4, q5, q6⟩ := qq
        obtain rfl := (h0.out (by simp only [haf])).symm
        obtain rfl := (h5.out (by simp only [haf])).symm
        subst hun
        go_simp
        exact hK.out _ _ ⟨b0, b1, b2, b3, b4, b5, true, false, .int .i64 (acc : Int), v54, v55, v56, v57, .int .i64 (d : Int), .int .i64 ((acc : Int) + (d : Int)), rfl, (by simp only [Act.put, List.setIfInBounds_toArray, List.set_cons_zero, List.set_cons_succ]), ⟨_, hB, rfl⟩, Lib.hid (fun _ => rfl), h1, h2, h3, h4, Lib.hid (fun _ => rfl), Lib.hid (fun _ => rfl), Lib.hid ⟨(fun _ => rfl), (fun _ => rfl), (fun _ => rfl), (fun _ => rfl), (fun _ => rfl), (fun _ => rfl), (fun hf => by cases hf)⟩⟩
      · -- operation 7
        replace hK := Lib.hid hK
        subst hun
        obtain ⟨Wp, hB, hWp⟩ := hB
        have hWq : W = Wp := by simpa using hWp
        clear hWp
        subst hWq
        have qq := HZ.out W hB
        obtain ⟨⟨q0, q1, q2, q3⟩, q4, q5, q6⟩ := qq
        obtain rfl := (h6.out (by simp only [haf])).symm
        go_simp
        exact hK.out _ _ ⟨b0, b1, b2, b3, b4, b5, b6, true, v53, v54, v55, v56, v57, v58, .int .i64 ((acc : Int) + (d : Int)), rfl, (by simp only [Act.put, List.setIfInBounds_toArray, List.set_cons_zero, List.set_cons_succ]), ⟨_, hB, rfl⟩, h0, h1, h2, Lib.hid (fun _ hu => absurd (show false = true from hu.symm.trans (by simp only [haf])) (by decide)), Lib.hid (fun _ hu => absurd (show false = true from hu.symm.trans (by simp only [haf])) (by decide)), h5, Lib.hid (fun _ => rfl), Lib.hid ⟨(fun hf => absurd (show false = true from hf.symm.trans (by simp only [haf])) (by decide)), (fun hf => absurd (show false = true from hf.symm.trans (by simp only [haf])) (by decide)), (fun hf => absurd (show false = true from hf.symm.trans (by simp only [haf])) (by decide)), (fun hf => absurd (show false = true from hf.symm.trans (by simp only [haf])) (by decide)), (fun hf => absurd (show false = true from hf.symm.trans (by simp only [haf])) (by decide)), (fun hf => absurd (show false = true from hf.symm.trans (by simp only [haf])) (by decide)), (fun hf => absurd (show false = true from hf.symm.trans (by simp only [haf])) (by decide))⟩⟩
    intro L A W hI hr
    obtain ⟨b0, b1, b2, b3, b4, b5, b6, b7, v53, v54, v55, v56, v57, v58, v59, rfl, rfl, hB, h0, h1, h2, h3, h4, h5, h6, p⟩ := hI
    have d0 := ready_done hr 0 _ rfl (by simp [Region.binds])
    have d1 := ready_done hr 1 _ rfl (by simp [Region.binds])
    have d2 := ready_done hr 2 _ rfl (by simp [Region.binds])
    simp at d0 d1 d2
    subst d0 d1 d2
    have d3 := ready_done hr 3 _ rfl (by simp [Region.binds])
    simp at d3
    subst d3
    have d4 := ready_done hr 4 _ rfl (by simp [Region.binds])
    simp at d4
    subst d4
    have d5 := ready_done hr 5 _ rfl (by simp [Region.binds])
    simp at d5
    subst d5
    have d6 := ready_done hr 6 _ rfl (by simp [Region.binds])
    simp at d6
    subst d6
    have d7 := ready_done hr 7 _ rfl (by simp [Region.binds])
    simp at d7
    subst d7
    obtain rfl := (h0.out rfl).symm
    obtain rfl := (h1.out rfl).symm
    obtain rfl := (h2.out rfl).symm
    obtain rfl := (h5.out rfl).symm
    obtain rfl := (h6.out rfl).symm
    obtain ⟨Wp, hB, hWp⟩ := hB
    have hWq : W = Wp.setCell ⟨m9, 0, none⟩ (.int .i64 ((acc : Int) + (d : Int))) := by simpa using hWp
    clear hWp
    subst hWq
    simp only [Act.put, List.setIfInBounds_toArray, List.set_cons_zero, List.set_cons_succ]
    clear hr h0 h1 h2 h3 h4 h5 h6 p
    have KO : ∀ k, k ≠ m9 → k < WB.heap.size → (Wp.setCell ⟨m9, 0, none⟩ (.int .i64 ((acc : Int) + (d : Int)))).heap[k]? = WB.heap[k]? := fun k hk hlt => ((Below.heap_setCell Wp ⟨m9, 0, none⟩ _ k hk).trans (hB.block k (Nat.lt_of_lt_of_le hlt HB9.out.size))).trans (HB9.out.block k hlt)
    have hBB := HB9.out.trans (hB.mono HB9.out.size)
    have hq9 : Wp.heap[m9]? = some (.cells #[.int .i64 (acc : Int)] 3 (0, 0)) := (hBB.block _ G9.out.lt).trans G9.out
    have hN9 : Blk (Wp.setCell ⟨m9, 0, none⟩ (.int .i64 ((acc : Int) + (d : Int)))) m9 #[.int .i64 ((szF gg (pre ++ [xe]) : Nat) : Int)] 3 := by
      rw [HSq.out, show (((acc + d : Nat)) : Int) = (acc : Int) + (d : Int) from by omega]
      exact one_setCell hq9
    have hO9 : (Wp.setCell ⟨m9, 0, none⟩ (.int .i64 ((acc : Int) + (d : Int)))).ownsRow w3.heap.size 29 2 (.slice (some ⟨g, 0, none⟩) N cap) N (flat2 L) := own_keep GO.out fun k e => by
      have hk : k = g := by
        simp [Value.ownBlock] at e
        omega
      subst hk
      exact KO k (by omega) (GO.out.lt k rfl).2
    have hBw := (GB.out.trans (hBB.mono hl0)).setCell (p := ⟨m9, 0, none⟩) (by show w.heap.size ≤ m9; omega) (.int .i64 ((acc : Int) + (d : Int)))
    gi_wp2
    refine ⟨⟨by simp; exact Nat.le_trans HB9.out.size hB.size, fun k o hk hko _ => (KO k (by omega) (Array.getElem?_eq_some_iff.1 hko).1).trans hko⟩, ⟨KO _ (by omega) G6.out.lt, KO _ (by omega) G7.out.lt⟩, ⟨⟨⟨⟨⟨(KO _ (by omega) G6.out.lt).trans G6.out, (KO _ (by omega) G7.out.lt).trans G7.out⟩, (KO _ (by omega) Gs.out.lt).trans Gs.out⟩, hN9⟩, hO9⟩, hBw⟩⟩
  case done =>
    rintro D ys W hD rfl ⟨⟨⟨⟨⟨b6, b7⟩, bs⟩, b9⟩, bO⟩, hB⟩ hK
    have hc9 := cell_of_one b9
    have hEq : szF gg ((gGrid A B hA1 hB1).list (B * A)) = szT c n ((a : Int) + 1) ((b : Int) + 1) := HEnd.out
    have hc9' : W.cell? ⟨m9, 0, none⟩ = some (.int .i64 (szT c n ((a : Int) + 1) ((b : Int) + 1) : Int)) := by rw [← hEq]; exact hc9
    have hD2 : m9 < D := by omega
    clear hc9
    gi_wp2
    refine ⟨by simp, .inl ⟨_, _, rfl, run_takeDeferred hK, ?_⟩⟩
    refine ⟨_, results_tmp rfl _ _ _, rfl, ?_⟩
    exact hB.trans (belowK_b (w := w) (Nat.le_refl _) _ D _ _ (by omega) hK rfl rfl)
  case stop =>
    rintro D c pre W _ _ h _
    exact h.elim
end Go.Proofs.YtabkkpifkkgpeaaDoor
