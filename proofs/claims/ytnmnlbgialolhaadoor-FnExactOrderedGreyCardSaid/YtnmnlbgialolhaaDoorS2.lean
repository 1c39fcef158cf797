/- Contracts of single functions, and plain lemmas, on which the exact laws of this seat rest; each holds under the conditions that it states. -/
import Derived.Test.YtnmnlbgialolhaaDoorA2
import Derived.Test.YtnmnlbgialolhaaDoorPb
namespace Go.Proofs.YtnmnlbgialolhaaDoor
set_option linter.unusedVariables false
set_option linter.unusedSimpArgs false
open Go.RowKit Go.Shelf
attribute [local go_sem] Oper.semAt_some

/-- the spots of a picture with a margin, row by row; of each one something is known -/
structure Grid (P : Int × Int → Prop) where
  n : Nat
  m : Nat
  k : Nat
  hn : 0 < n
  hm : 0 < m
  hP : ∀ x y : Nat, x < n → y < m → P ((x : Int) - (k : Int), (y : Int) - (k : Int))
section
variable {P : Int × Int → Prop} (G : Grid P)
def Grid.at (i : Nat) : { p : Int × Int // P p } := ⟨(((i % G.n : Nat) : Int) - (G.k : Int), ((i / G.n % G.m : Nat) : Int) - (G.k : Int)), G.hP _ _ (Nat.mod_lt _ G.hn) (Nat.mod_lt _ G.hm)⟩
def Grid.list (t : Nat) : List { p : Int × Int // P p } := (List.range t).map G.at
theorem Grid.list_len (t : Nat) : (G.list t).length = t := by simp [Grid.list]
theorem Grid.list_snoc (t : Nat) : G.list (t + 1) = G.list t ++ [G.at t] := by simp [Grid.list, List.range_succ]
def encP (x : { p : Int × Int // P p }) : Array Value := #[.agg #[.int .i64 x.1.1, .int .i64 x.1.2]]
theorem encP_at (y x : Nat) (hy : y < G.m) (hx : x < G.n) : encP (G.at (y * G.n + x)) = #[.agg #[.int .i64 ((x : Int) - (G.k : Int)), .int .i64 ((y : Int) - (G.k : Int))]] := by
  have e1 : (y * G.n + x) % G.n = x := by rw [Nat.mul_comm, Nat.mul_add_mod, Nat.mod_eq_of_lt hx]
  have e2 : (y * G.n + x) / G.n % G.m = y := by rw [Nat.mul_comm, Nat.mul_add_div G.hn, Nat.div_eq_of_lt hx, Nat.add_zero, Nat.mod_eq_of_lt hy]
  simp only [encP, Grid.at, e1, e2]
end
/-- a round leaves two blocks as they are -/
def Two2 (mb kb : Nat) (A B : World) : Prop := B.heap[mb]? = A.heap[mb]? ∧ B.heap[kb]? = A.heap[kb]?

set_option maxRecDepth 100000 in
set_option maxHeartbeats 2000000 in
/-- the iterator over the spots of a picture -/
theorem spots_in {P : Int × Int → Prop} (G : Grid P) (M : Array Value) (a b mb kb : Nat) (ha : a ≤ 16) (hb : b ≤ 16) (hk2 : G.k ≤ 2) (hna : G.n = a + 2 * G.k) (hmb : G.m = b + 2 * G.k)
    (hM : ∀ W : World, W.heap[mb]? = some (.cells M 63 (0, 0)) → W.cell? ⟨mb, 0, none⟩ = some (.int .i64 a) ∧ W.cell? ⟨mb, 1, none⟩ = some (.int .i64 b))
    (F : Fence) (n : Nat) (hF : F.fn 114) (hro : F.round = none) (hn : 1 ≤ n) (l : Nat) (J Jx : List { p : Int × Int // P p } → World → Prop)
    (hY : ∀ pre x W, J pre W → pre.length < G.m * G.n → YieldAt F (n - 1) Tryd.prog l (encP x) W fun e W' =>
      (e = .returned (.bool true) ∧ J (pre ++ [x]) W' ∧ Two2 mb kb W W') ∨ (e = .returned (.bool false) ∧ Jx (pre ++ [x]) W'))
    (W : World) (h0 : J [] W) (h1 : W.heap[mb]? = some (.cells M 63 (0, 0))) (h2 : W.heap[kb]? = some (.cells #[.int .i64 G.k] 2 (0, 0))) :
    CallsIn F n Tryd.prog 114 #[.func (.yield l) #[] #[], .pointer (some ⟨kb, 0, none⟩), .pointer (some ⟨mb, 0, none⟩)] W fun e W' => (∃ v, e = .returned v) ∧
      ((∃ ys, ys = G.list (G.m * G.n) ∧ J ys W') ∨ (∃ pre, True ∧ Jx pre W')) := by
  have HM := Lib.hid hM
  have H1 := Lib.hid h1
  have H2 := Lib.hid h2
  have hY' := Lib.hid hY
  have HE := Lib.hid (fun y x hy hx => encP_at G y x hy hx)
  have HSn := Lib.hid (fun t => G.list_snoc t)
  have HLn := Lib.hid (fun t => G.list_len t)
  obtain ⟨k, hk⟩ : ∃ k, G.k = k := ⟨_, rfl⟩
  obtain ⟨nn, hnn⟩ : ∃ k, G.n = k := ⟨_, rfl⟩
  obtain ⟨mm, hmm⟩ : ∃ k, G.m = k := ⟨_, rfl⟩
  rw [hk, hnn] at hna HE
  rw [hk, hmm] at hmb
  rw [hmm] at HE
  rw [hk] at hk2 H2
  rw [hmm, hnn] at hY'
  rw [hmm, hnn]
  clear hM h1 h2 hY hk hnn hmm
  refine callsIn_of_wp Tryd.func114 rfl hF ?_ hro
  simp only [Tryd.ntmps114, List.size_toArray, List.length_cons, List.length_nil, Nat.reduceAdd, Nat.reduceSub, Array.replicate_succ, Array.replicate_zero, List.push_toArray, List.append_toArray, List.nil_append, List.cons_append]
  have ck := cell_of_one H2.out
  gi_wp2
  gi_loopw [4] (fun yv wr => ∃ y : Nat, y ≤ mm ∧ yv = .int .i64 ((y : Int) - (k : Int)) ∧ J (G.list (y * nn)) wr ∧ Hid (wr.heap[mb]? = some (.cells M 63 (0, 0))) ∧ Hid (wr.heap[kb]? = some (.cells #[.int .i64 k] 2 (0, 0)))) (fun yv _ => ((b : Int) + (k : Int) - intOf yv).toNat)
  case atStart => exact ⟨0, by omega, by simp, by rw [Nat.zero_mul]; exact h0, H1.out, H2.out⟩
  case round =>
    clear H1 H2 ck h0
    obtain ⟨y, hy, rfl, hJ, H1, H2⟩ := hrel
    have ck := cell_of_one H2.out
    have cm := HM.out wr H1.out
    have cm0 := cm.1
    have cm1 := cm.2
    clear cm
    by_cases hlt : y < mm
    · have ky : (y : Int) - (k : Int) < (b : Int) + (k : Int) := by omega
      gi_wp2
      gi_loopw [5] (fun xv wr => ∃ x : Nat, x ≤ nn ∧ xv = .int .i64 ((x : Int) - (k : Int)) ∧ J (G.list (y * nn + x)) wr ∧ Hid (wr.heap[mb]? = some (.cells M 63 (0, 0))) ∧ Hid (wr.heap[kb]? = some (.cells #[.int .i64 k] 2 (0, 0)))) (fun xv _ => ((a : Int) + (k : Int) - intOf xv).toNat)
      case atStart => exact ⟨0, by omega, by simp, hJ, H1.out, H2.out⟩
      case round =>
        clear hJ H1 H2 ck cm0 cm1
        obtain ⟨x, hx, rfl, hJ, H1, H2⟩ := hrel
        have ck := cell_of_one H2.out
        have cm := HM.out wr H1.out
        have cm0 := cm.1
        have cm1 := cm.2
        clear cm
        by_cases hltx : x < nn
        · have kx : (x : Int) - (k : Int) < (a : Int) + (k : Int) := by omega
          have hlN : y * nn + x < mm * nn := by
            have : (y + 1) * nn ≤ mm * nn := Nat.mul_le_mul hlt (Nat.le_refl _)
            rw [Nat.add_mul, Nat.one_mul] at this
            omega
          have hy0 := hY'.out (G.list (y * nn + x)) (G.at (y * nn + x)) wr hJ (by rw [HLn.out]; exact hlN)
          have he := HE.out y x hlt hltx
          rw [he, ← HSn.out] at hy0
          obtain ⟨fn, tmps, assign, body, hyv, hR⟩ := hy0
          clear hJ he
          gi_wp2
          refine hR.mono ?_
          rintro e W3 (⟨rfl, hJ3, hk3⟩ | ⟨rfl, hJx3⟩)
          · have H13 : Hid (W3.heap[mb]? = some (.cells M 63 (0, 0))) := hk3.1.trans H1.out
            have H23 : Hid (W3.heap[kb]? = some (.cells #[.int .i64 k] 2 (0, 0))) := hk3.2.trans H2.out
            clear hk3 H1 H2 ck cm0 cm1
            gi_wp2
            go_roundw
            case rel => exact ⟨x + 1, by omega, by go_num, hJ3, H13.out, H23.out⟩
            case measure => simp [intOf]; omega
          · gi_wp2
            refine bodyPost_ret (results_none rfl _ _ _) rfl ?_
            exact ⟨⟨_, rfl⟩, .inr ⟨_, trivial, hJx3⟩⟩
        · obtain rfl : x = nn := by omega
          have kx : ¬ (x : Int) - (k : Int) < (a : Int) + (k : Int) := by omega
          have e1 : y * x + x = (y + 1) * x := by rw [Nat.add_mul, Nat.one_mul]
          rw [e1] at hJ
          clear e1
          gi_wp2
          go_roundw
          case rel => exact ⟨y + 1, by omega, by go_num, hJ, H1.out, H2.out⟩
          case measure => simp [intOf]; omega
    · obtain rfl : y = mm := by omega
      have ky : ¬ (y : Int) - (k : Int) < (b : Int) + (k : Int) := by omega
      gi_wp2
      go_end0
      first | exact ⟨⟨_, rfl⟩, .inl ⟨_, rfl, hJ⟩⟩ | exact ⟨⟨_, rfl⟩, .inl (by rw [← hna, ← hmb]; exact hJ)⟩

theorem spots_stops {P : Int × Int → Prop} (G : Grid P) (M : Array Value) (a b mb kb : Nat) (ha : a ≤ 16) (hb : b ≤ 16) (hk2 : G.k ≤ 2) (hna : G.n = a + 2 * G.k) (hmb : G.m = b + 2 * G.k)
    (hM : ∀ W : World, W.heap[mb]? = some (.cells M 63 (0, 0)) → W.cell? ⟨mb, 0, none⟩ = some (.int .i64 a) ∧ W.cell? ⟨mb, 1, none⟩ = some (.int .i64 b))
    (F : Fence) (n : Nat) (hF : F.fn 114) (hro : F.round = none) (hn : 1 ≤ n) (w : World) (h1 : w.heap[mb]? = some (.cells M 63 (0, 0))) (h2 : w.heap[kb]? = some (.cells #[.int .i64 G.k] 2 (0, 0))) :
    SeqStopsK F n Tryd.prog 114 #[.pointer (some ⟨kb, 0, none⟩), .pointer (some ⟨mb, 0, none⟩)] (encP (P := P)) (Two2 mb kb) (fun ys => ys = G.list (G.m * G.n)) (fun _ => True) (G.m * G.n) w := fun l J Jx W hW _ _ hY h0 =>
  spots_in G M a b mb kb ha hb hk2 hna hmb hM F n hF hro hn l J Jx hY W h0 ((hW.block _ (Array.getElem?_eq_some_iff.1 h1).1).trans h1) ((hW.block _ (Array.getElem?_eq_some_iff.1 h2).1).trans h2)
theorem two2_t {mb kb : Nat} {A B C : World} (h : Two2 mb kb A B) (k : Two2 mb kb B C) : Two2 mb kb A C := ⟨k.1.trans h.1, k.2.trans h.2⟩
theorem two2_b {mb kb : Nat} {w : World} (hm : mb < w.heap.size) (hk : kb < w.heap.size) (W : World) (l : Nat) (o o' : Obj) (hl : w.heap.size ≤ l) (_ : W.heap[l]? = some o) (_ : o.isCells = false) (_ : o.isWalk = false) : Two2 mb kb W (W.putObj l o') :=
  ⟨World.putObj_heap_other (by omega), World.putObj_heap_other (by omega)⟩
theorem two2_below {mb kb : Nat} {W W' : World} (hm : mb < W.heap.size) (hk : kb < W.heap.size) (h : Below W.heap.size W W') : Two2 mb kb W W' := ⟨h.block _ hm, h.block _ hk⟩

set_option maxRecDepth 100000 in
set_option maxHeartbeats 1000000 in
/-- the iterator is made -/
theorem spots_any (M : Array Value) (k : Nat) (w : World) (hI : M.size = 18) :
    Calls Tryd.prog 89 #[.agg M, .int .i64 k] w fun e w' => e = .returned (.func (.func 114) #[] #[.pointer (some ⟨w.heap.size + 1, 0, none⟩), .pointer (some ⟨w.heap.size, 0, none⟩)]) ∧ w' = (w.alloc (.cells M 63)).alloc (.cells #[.int .i64 k] 2) := by
  have hmf : ∀ (fn : Fn) (first cap : Array Value) (w : World), (Instr.makeFunc fn first cap).run Tryd.prog w = .ok (.func fn first cap) w := fun _ _ _ _ => rfl
  go_enter Tryd.func89, Tryd.ntmps89
  go_wp2
  go_ret
  exact ⟨rfl, rfl⟩
end Go.Proofs.YtnmnlbgialolhaaDoor
