/- Contracts of single functions, and plain lemmas, on which the exact laws of this seat rest; each holds under the conditions that it states. -/
import Derived.Test.YtenbhnfajjknkaaDoorSp
import Derived.Test.YtenbhnfajjknkaaDoorQk
import Derived.Test.YtenbhnfajjknkaaDoorPb
namespace Go.Proofs.YtenbhnfajjknkaaDoor
set_option linter.unusedVariables false
set_option linter.unusedSimpArgs false
open Go.RowKit

/-- the spots of the first N pixels that are black -/
def spL (f : Nat → Nat → Bool) (wd N : Nat) : List (Int × Int) := (List.range N).filterMap fun i => if f (i / wd) (i % wd) then some (((i % wd : Nat) : Int), ((i / wd : Nat) : Int)) else none
theorem spL_len (f : Nat → Nat → Bool) (wd N : Nat) : (spL f wd N).length ≤ N := by
  unfold spL
  have := List.length_filterMap_le (fun i => if f (i / wd) (i % wd) then some (((i % wd : Nat) : Int), ((i / wd : Nat) : Int)) else none) (List.range N)
  simpa using this
theorem spL_snoc (f : Nat → Nat → Bool) (wd y x : Nat) (hx : x < wd) : spL f wd (y * wd + x + 1) = spL f wd (y * wd + x) ++ (if f y x then [((x : Int), (y : Int))] else []) := by
  have h1 : (y * wd + x) / wd = y := by rw [Nat.mul_comm, Nat.mul_add_div (by omega), Nat.div_eq_of_lt hx, Nat.add_zero]
  have h2 : (y * wd + x) % wd = x := by rw [Nat.mul_comm, Nat.mul_add_mod, Nat.mod_eq_of_lt hx]
  unfold spL
  rw [List.range_succ, List.filterMap_append]
  congr 1
  simp only [List.filterMap_cons, List.filterMap_nil, h1, h2]
  split <;> simp_all

set_option maxHeartbeats 2000000 in
set_option maxRecDepth 100000 in
theorem l01Spots_any (pb po : Nat) (ss : List ByteArray) (w : World) (hpa : PicAt w pb po ss) :
    Calls Tryd.prog 73 #[.pointer (some ⟨pb, po, none⟩)] w (fun e w' => ∃ v, e = .returned v ∧ (∃ ao n cap, v = .slice ao n cap) ∧ OwnS w' w.heap.size v (spL (pixF ss) (row0 ss).size ((row0 ss).size * ss.length)) ∧ Below w.heap.size w w') := by
  obtain ⟨i0, hi, hz0, hz1, hz2⟩ := info_parts infoSp
  obtain ⟨b0, off0, cap0, hcc, hst, V⟩ := hpa.open'
  have hw1 := V.w1
  have hw16 := V.w16
  have hn1 := V.n1
  have hn16 := V.n16
  have CW : Hid (∀ W, PicAt W pb po ss → Calls Tryd.prog 57 #[.pointer (some ⟨pb, po, none⟩)] W fun e w' => e = .returned (.int .i64 (row0 ss).size) ∧ W = w') := fun W h => l01Width_any _ _ ss W h
  have CH : Hid (∀ W, PicAt W pb po ss → Calls Tryd.prog 56 #[.pointer (some ⟨pb, po, none⟩)] W fun e w' => e = .returned (.int .i64 ss.length) ∧ W = w') := fun W h => l01Height_any _ _ ss W h
  have CB : Hid (∀ (x y : Nat) W, x < (row0 ss).size → y < ss.length → PicAt W pb po ss → Calls Tryd.prog 59 #[.pointer (some ⟨pb, po, none⟩), .int .i64 x, .int .i64 y] W fun e w' => e = .returned (.bool (pixF ss y x)) ∧ W = w') := fun x y W hx hy h => by
    have := l01Black_any _ _ ss (x : Int) (y : Int) W h
    unfold pixI at this
    rw [in_range hx hy] at this
    simpa [pixF] using this
  obtain ⟨f, hf⟩ : ∃ f, pixF ss = f := ⟨_, rfl⟩
  rw [hf] at CB ⊢
  obtain ⟨wd, hwd⟩ : ∃ k, (row0 ss).size = k := ⟨_, rfl⟩
  obtain ⟨n, hnn⟩ : ∃ k, ss.length = k := ⟨_, rfl⟩
  rw [hwd] at CW CB hw1 hw16 ⊢
  rw [hnn] at CH CB hn1 hn16 ⊢
  have HPA := Lib.hid hpa
  have hlp : pb < w.heap.size := blk_lt hcc
  clear hcc hst V hpa hf hwd hnn
  go_enter Tryd.func73, Tryd.ntmps73
  go_wp2
  go_loopw [3, 4] (fun v yv wr => ∃ y : Nat, y ≤ n ∧ yv = .int .i64 y ∧ (∃ ao n cap, v = .slice ao n cap) ∧ OwnS wr w.heap.size v (spL f wd (y * wd)) ∧ Below w.heap.size w wr) (fun _ yv _ => n - (intOf yv).toNat)
  case atStart =>
    refine ⟨0, Nat.zero_le _, rfl, ⟨_, _, _, rfl⟩, ?_, Joins.below_alloc1 _ _⟩
    rw [Nat.zero_mul]
    exact World.ownsRow_lit (base := w.heap.size) (e := 79) (size := 2) w #[] 0 (Nat.le_refl _) (by unfold maxLen; omega) rfl
  case round =>
    obtain ⟨y, hy, rfl, ⟨ao, m, cap, rfl⟩, hown, hbel⟩ := hrel
    have A0 := Lib.hid (HPA.out.below hbel)
    by_cases hlt : y < n
    · have kyn : (y : Int) < (n : Int) := by omega
      have HO := Lib.hid hown
      have HB := Lib.hid hbel
      clear hown hbel
      go_wp2_with fail
      refine (CH.out _ A0.out).mono ?_
      rintro e w' ⟨rfl, rfl⟩
      go_wp2_with fail
      go_loopw [3, 5] (fun v xv wr => ∃ x : Nat, x ≤ wd ∧ xv = .int .i64 x ∧ (∃ ao n cap, v = .slice ao n cap) ∧ OwnS wr w.heap.size v (spL f wd (y * wd + x)) ∧ Below w.heap.size w wr) (fun _ xv _ => wd - (intOf xv).toNat)
      case atStart => exact ⟨0, Nat.zero_le _, rfl, ⟨_, _, _, rfl⟩, HO.out, HB.out⟩
      case round =>
        clear HO HB A0
        obtain ⟨x, hx, rfl, ⟨ao, m, cap, rfl⟩, hown, hbel⟩ := hrel
        have A0 := Lib.hid (HPA.out.below hbel)
        by_cases hlt2 : x < wd
        · have kxw : (x : Int) < (wd : Int) := by omega
          have hsn := spL_snoc f wd y x hlt2
          have cb := fun W => CB.out x y W hlt2 hlt
          have hle := spL_len f wd (y * wd + x)
          have hNle : y * wd ≤ 256 := Nat.le_trans (Nat.mul_le_mul hy (Nat.le_refl _)) (Nat.mul_le_mul hn16 hw16)
          have hs1 := hbel.size
          have HO := Lib.hid hown
          have HB := Lib.hid hbel
          cases hbt : f y x with
          | true =>
            rw [hbt, if_pos rfl] at hsn
            rw [hbt] at cb
            have CBt := Lib.hid cb
            obtain ⟨L, hL⟩ : ∃ L, spL f wd (y * wd + x) = L := ⟨_, rfl⟩
            rw [hL] at hsn HO hle
            have HSN := Lib.hid hsn
            have hM2 : L.length ≤ 300 := by omega
            clear hown hbel hsn hbt cb hL
            go_wp2_with fail
            refine (CW.out _ A0.out).mono ?_
            rintro e w' ⟨rfl, rfl⟩
            go_wp2_with fail
            refine (CBt.out _ A0.out).mono ?_
            rintro e w' ⟨rfl, rfl⟩
            go_wp2_with (at_builtin; refine wpList_append_own _ rfl _ _ 34 rfl w.heap.size 79 i0 (.agg #[.int .i64 0, .int .i64 0]) 2 16 Tryd.underlying34 hi hz0 hz1 hz2 rfl (by decide) _ _ _ rfl (World.ownsRow.alloc HO.out _) ⟨wr.heap.size, 0, none⟩ 1 1 [.int .i64 x, .int .i64 y] rfl rfl (two_cells_new _ _ _ _) (by intro u hu; simp at hu; rcases hu with rfl | rfl <;> rfl) (by unfold maxLen; omega) (by omega) (by simp; omega) ?_)
            intro v' w2 hown' hgr _
            have o1 := World.ownsRow.alloc HO.out (.cells #[.int .i64 x, .int .i64 y] 79)
            have B2 : Hid (Below w.heap.size w w2) := (HB.out.alloc hs1 _).grown hgr (by simp; omega) (fun k hk => (o1.lt k hk).1)
            have O2 : Hid (OwnS w2 w.heap.size v' (spL f wd (y * wd + (x + 1)))) := by
              show OwnS _ _ _ _
              unfold OwnS
              rw [show y * wd + (x + 1) = y * wd + x + 1 from by omega, HSN.out, flat2_snoc, List.length_append]
              exact hown'
            obtain ⟨g', c', rfl⟩ := Joins.ownsRow_form hown' (by omega)
            clear hown' hgr o1
            go_wp2
            go_roundw
            case rel => exact ⟨x + 1, by omega, by go_num, ⟨_, _, _, rfl⟩, O2.out, B2.out⟩
            case measure => simp [intOf]; omega
          | false =>
            rw [hbt] at hsn cb
            rw [show (if false = true then [((x : Int), (y : Int))] else []) = [] from rfl, List.append_nil] at hsn
            have CBt := Lib.hid cb
            have O2 : Hid (OwnS wr w.heap.size (.slice ao m cap) (spL f wd (y * wd + (x + 1)))) := by
              show OwnS _ _ _ _
              rw [show y * wd + (x + 1) = y * wd + x + 1 from by omega, hsn]
              exact hown
            clear hown hbel hsn hbt cb HO hle
            go_wp2_with fail
            refine (CW.out _ A0.out).mono ?_
            rintro e w' ⟨rfl, rfl⟩
            go_wp2_with fail
            refine (CBt.out _ A0.out).mono ?_
            rintro e w' ⟨rfl, rfl⟩
            go_wp2
            go_roundw
            case rel => exact ⟨x + 1, by omega, by go_num, ⟨_, _, _, rfl⟩, O2.out, HB.out⟩
            case measure => simp [intOf]; omega
        · obtain rfl : x = wd := by omega
          have e1 : y * x + x = (y + 1) * x := by rw [Nat.add_mul, Nat.one_mul]
          rw [e1] at hown
          have HO := Lib.hid hown
          have HB := Lib.hid hbel
          clear hown hbel e1
          go_wp2_with fail
          refine (CW.out _ A0.out).mono ?_
          rintro e w' ⟨rfl, rfl⟩
          go_wp2
          go_roundw
          case rel => exact ⟨y + 1, hlt, by go_num, ⟨_, _, _, rfl⟩, HO.out, HB.out⟩
          case measure => simp [intOf]; omega
    · obtain rfl : y = n := by omega
      rw [Nat.mul_comm y wd] at hown
      have HO := Lib.hid hown
      have HB := Lib.hid hbel
      clear hown hbel
      go_wp2_with fail
      refine (CH.out _ A0.out).mono ?_
      rintro e w' ⟨rfl, rfl⟩
      go_wp2_with fail
      go_ret
      exact ⟨_, rfl, ⟨_, _, _, rfl⟩, HO.out, HB.out⟩
end Go.Proofs.YtenbhnfajjknkaaDoor

/- Contracts of single functions, and plain lemmas, on which the exact laws of this seat rest; each holds under the conditions that it states. -/
namespace Go.Proofs.YtenbhnfajjknkaaDoor
set_option linter.unusedVariables false
set_option linter.unusedSimpArgs false
open Go.RowKit

/-! ### what is reached -/
def addS (q d : Int × Int) : Int × Int := (q.1 + d.1, q.2 + d.2)
def pAt (p : Int → Int → Bool) (q : Int × Int) : Bool := p q.1 q.2
/-- the spots that are reached from some by steps over black pixels -/
inductive Reach (p : Int → Int → Bool) (S xs : List (Int × Int)) : Int × Int → Prop
  | seed {q : Int × Int} : q ∈ xs → pAt p q = true → Reach p S xs q
  | step {q d : Int × Int} : Reach p S xs q → d ∈ S → pAt p (addS q d) = true → Reach p S xs (addS q d)
theorem Reach.black {p : Int → Int → Bool} {S xs : List (Int × Int)} {q : Int × Int} (h : Reach p S xs q) : pAt p q = true := by
  cases h with
  | seed _ h => exact h
  | step _ _ h => exact h

theorem count_set_true : ∀ (bs : List Bool) (i : Nat), bs[i]? = some false → (bs.set i true).count true = bs.count true + 1
  | [], i, h => by simp at h
  | c :: bs, 0, h => by
    simp at h
    subst h
    simp
  | c :: bs, i + 1, h => by
    have := count_set_true bs i (by simpa using h)
    rw [List.set_cons_succ, List.count_cons, List.count_cons, this]
    omega

/-- where a search stands: the marks, the queue; the first i of the queue are done, of the next one the first k steps -/
structure Bfs (p : Int → Int → Bool) (S xs : List (Int × Int)) (a b m i k : Nat) (bs : List Bool) (Q : List (Int × Int)) : Prop where
  len : bs.length = a * b
  hi : i ≤ Q.length
  hk : k = 0 ∨ i < Q.length
  cnt : bs.count true = Q.length
  mem : ∀ q ∈ Q, Reach p S xs q
  mark : ∀ x y : Nat, x < a → y < b → (bs.getD (y * a + x) false = true ↔ ((x : Int), (y : Int)) ∈ Q)
  seeds : ∀ j, j < m → ∀ q, xs[j]? = some q → pAt p q = true → q ∈ Q
  done : ∀ j, j < i → ∀ q, Q[j]? = some q → ∀ d ∈ S, pAt p (addS q d) = true → addS q d ∈ Q
  part : ∀ q, Q[i]? = some q → ∀ j, j < k → ∀ d, S[j]? = some d → pAt p (addS q d) = true → addS q d ∈ Q
section
variable {p : Int → Int → Bool} {S xs : List (Int × Int)} {a b m i k : Nat} {bs : List Bool} {Q : List (Int × Int)}
theorem Bfs.qlen (h : Bfs p S xs a b m i k bs Q) : Q.length ≤ a * b := by
  rw [← h.cnt, ← h.len]
  exact List.count_le_length
theorem Bfs.start (p : Int → Int → Bool) (S xs : List (Int × Int)) (a b : Nat) : Bfs p S xs a b 0 0 0 (List.replicate (a * b) false) [] := by
  refine ⟨by simp, Nat.zero_le _, Or.inl rfl, by rw [List.count_replicate]; rfl, fun q h => by simp at h, fun x y hx hy => ?_, fun j h => absurd h (Nat.not_lt_zero j), fun j h => absurd h (Nat.not_lt_zero j), fun q h => by simp at h⟩
  constructor
  · intro h
    rw [List.getD_eq_getElem?_getD, List.getElem?_replicate] at h
    split at h <;> simp at h
  · intro h
    simp at h
theorem at_lt {x y : Nat} (hx : x < a) (hy : y < b) : y * a + x < a * b := by
  have : (y + 1) * a ≤ b * a := Nat.mul_le_mul hy (Nat.le_refl _)
  rw [Nat.add_mul, Nat.one_mul] at this
  rw [Nat.mul_comm a b]
  omega
theorem at_inj {x y x' y' : Nat} (hx : x < a) (hx' : x' < a) (h : y * a + x = y' * a + x') : x = x' ∧ y = y' := by
  have e1 : (y * a + x) % a = x := by rw [Nat.mul_comm, Nat.mul_add_mod, Nat.mod_eq_of_lt hx]
  have e2 : (y' * a + x') % a = x' := by rw [Nat.mul_comm, Nat.mul_add_mod, Nat.mod_eq_of_lt hx']
  have hxx : x = x' := by rw [← e1, ← e2, h]
  subst hxx
  refine ⟨rfl, ?_⟩
  exact Nat.eq_of_mul_eq_mul_right (by omega : 0 < a) (by omega)
/-- one more is marked and put into the queue -/
theorem Bfs.push (h : Bfs p S xs a b m i k bs Q) {x y : Nat} (hx : x < a) (hy : y < b) (hr : Reach p S xs ((x : Int), (y : Int))) (hu : bs[y * a + x]? = some false) :
    Bfs p S xs a b m i k (bs.set (y * a + x) true) (Q ++ [((x : Int), (y : Int))]) := by
  have hn : ((x : Int), (y : Int)) ∉ Q := by
    intro hq
    have := (h.mark x y hx hy).2 hq
    rw [List.getD_eq_getElem?_getD, hu] at this
    cases this
  refine ⟨by rw [List.length_set]; exact h.len, by rw [List.length_append]; have := h.hi; omega, by rw [List.length_append]; rcases h.hk with e | e; exact Or.inl e; exact Or.inr (by omega), ?_, ?_, ?_, ?_, ?_, ?_⟩
  · rw [count_set_true bs _ hu, h.cnt, List.length_append]
    rfl
  · intro q hq
    rcases List.mem_append.1 hq with hq | hq
    · exact h.mem q hq
    · obtain rfl := List.mem_singleton.1 hq
      exact hr
  · intro x' y' hx' hy'
    by_cases e : y' * a + x' = y * a + x
    · obtain ⟨rfl, rfl⟩ := at_inj hx' hx e
      constructor
      · intro _; exact List.mem_append_right _ (List.mem_singleton.2 rfl)
      · intro _
        rw [List.getD_eq_getElem?_getD, List.getElem?_set_self (by rw [h.len]; exact at_lt hx hy)]
        rfl
    · have e2 : (bs.set (y * a + x) true).getD (y' * a + x') false = bs.getD (y' * a + x') false := by
        rw [List.getD_eq_getElem?_getD, List.getD_eq_getElem?_getD, List.getElem?_set_ne (by omega)]
      rw [e2, h.mark x' y' hx' hy']
      constructor
      · intro hq; exact List.mem_append_left _ hq
      · intro hq
        rcases List.mem_append.1 hq with hq | hq
        · exact hq
        · have := List.mem_singleton.1 hq
          have h1 : (x' : Int) = (x : Int) := congrArg Prod.fst this
          have h2 : (y' : Int) = (y : Int) := congrArg Prod.snd this
          have h3 : x' = x := by omega
          have h4 : y' = y := by omega
          subst h3; subst h4
          exact absurd rfl e
  · intro j hj q hq hb
    exact List.mem_append_left _ (h.seeds j hj q hq hb)
  · intro j hj q hq d hd hb
    have hjl : j < Q.length := Nat.lt_of_lt_of_le hj h.hi
    rw [List.getElem?_append_left hjl] at hq
    exact List.mem_append_left _ (h.done j hj q hq d hd hb)
  · intro q hq j hj d hd hb
    have hil : i < Q.length := by rcases h.hk with e | e; omega; exact e
    rw [List.getElem?_append_left hil] at hq
    exact List.mem_append_left _ (h.part q hq j hj d hd hb)
/-- a seed is done -/
theorem Bfs.seeded (h : Bfs p S xs a b m i k bs Q) (hq : ∀ q, xs[m]? = some q → pAt p q = true → q ∈ Q) : Bfs p S xs a b (m + 1) i k bs Q :=
  { h with
    seeds := fun j hj q e hb => by
      by_cases ej : j = m
      · subst ej; exact hq q e hb
      · exact h.seeds j (by omega) q e hb }
/-- a step is done -/
theorem Bfs.stepped (h : Bfs p S xs a b m i k bs Q) (hi : i < Q.length) (hq : ∀ q, Q[i]? = some q → ∀ d, S[k]? = some d → pAt p (addS q d) = true → addS q d ∈ Q) : Bfs p S xs a b m i (k + 1) bs Q :=
  { h with
    hk := Or.inr hi
    part := fun q e j hj d ed hb => by
      by_cases ej : j = k
      · subst ej; exact hq q e d ed hb
      · exact h.part q e j (by omega) d ed hb }
/-- one of the queue is done -/
theorem Bfs.next (h : Bfs p S xs a b m i S.length bs Q) (hi : i < Q.length) : Bfs p S xs a b m (i + 1) 0 bs Q :=
  { h with
    hi := hi
    hk := Or.inl rfl
    done := fun j hj q e d hd hb => by
      by_cases ej : j = i
      · subst ej
        obtain ⟨n, hn, hnd⟩ := List.mem_iff_getElem.1 hd
        exact h.part q e n hn d (by rw [List.getElem?_eq_getElem hn, hnd]) hb
      · exact h.done j (by omega) q e d hd hb
    part := fun q e j hj => absurd hj (Nat.not_lt_zero j) }
/-- all is reached -/
theorem Bfs.all (h : Bfs p S xs a b xs.length Q.length k bs Q) (q : Int × Int) : Reach p S xs q ↔ q ∈ Q := by
  constructor
  · intro hr
    induction hr with
    | seed hx hb =>
      obtain ⟨n, hn, e⟩ := List.mem_iff_getElem.1 hx
      exact h.seeds n hn _ (by rw [List.getElem?_eq_getElem hn, e]) hb
    | step _ hd hb ih =>
      obtain ⟨n, hn, e⟩ := List.mem_iff_getElem.1 ih
      exact h.done n hn _ (by rw [List.getElem?_eq_getElem hn, e]) _ hd hb
  · intro hq
    exact h.mem q hq
end
end Go.Proofs.YtenbhnfajjknkaaDoor

/- Contracts of single functions, and plain lemmas, on which the exact laws of this seat rest; each holds under the conditions that it states. -/
namespace Go.Proofs.YtenbhnfajjknkaaDoor
set_option linter.unusedVariables false
set_option linter.unusedSimpArgs false
open Go.RowKit

def step4 : List (Int × Int) := [(0, -1), (-1, 0), (1, 0), (0, 1)]
def stepX : List (Int × Int) := [(-1, -1), (1, -1), (-1, 1), (1, 1)]
def stepL (e8 : Bool) : List (Int × Int) := if e8 then step4 ++ stepX else step4
theorem stepL_rng (e8 : Bool) : ∀ d ∈ stepL e8, (-1 ≤ d.1 ∧ d.1 ≤ 1) ∧ (-1 ≤ d.2 ∧ d.2 ≤ 1) := by
  cases e8 <;> decide
theorem flat2_all1 (xs : List (Int × Int)) : ∀ u ∈ flat2 xs, u.oneCell' = true := by
  intro u hu
  unfold flat2 at hu
  obtain ⟨j, _, rfl⟩ := List.mem_map.1 hu
  rfl
theorem news_lit (w : World) (cs : Array Value) (t : TypeId) (xs : List Value) (h : cs.toList = xs) : ∀ j u, xs[j]? = some u → (w.alloc (.cells cs t)).cell? ((⟨w.heap.size, 0, none⟩ : Addr).add j) = some u := by
  intro j u hj
  subst h
  rw [Addr.add_mid, Nat.zero_add, Joins.cell_of_block (heap_alloc_last w _) j]
  simpa using hj

set_option maxHeartbeats 2000000 in
set_option maxRecDepth 100000 in
theorem l03Steps_any (e8 : Bool) (w : World) :
    Calls Tryd.prog 100 #[.bool e8] w (fun e w' => ∃ ao n cap, e = .returned (.slice ao n cap) ∧ OwnS w' w.heap.size (.slice ao n cap) (stepL e8) ∧ Below w.heap.size w w') := by
  obtain ⟨i0, hi, hz0, hz1, hz2⟩ := info_parts infoSp
  have H4 : Hid ((w.alloc (.cells #[.int .i64 0, .int .i64 (-1), .int .i64 (-1), .int .i64 0, .int .i64 1, .int .i64 0, .int .i64 0, .int .i64 1] 79)).ownsRow w.heap.size 79 2 (.slice (some ⟨w.heap.size, 0, none⟩) 4 4) 4 (flat2 step4)) :=
    World.ownsRow_lit (base := w.heap.size) (e := 79) (size := 2) w _ 4 (Nat.le_refl _) (by unfold maxLen; omega) rfl
  cases e8 with
  | false =>
    go_enter Tryd.func100, Tryd.ntmps100
    go_wp2
    go_ret
    exact ⟨_, _, _, rfl, H4.out, Joins.below_alloc1 _ _⟩
  | true =>
    have hn := (news_lit (w.alloc (.cells #[.int .i64 0, .int .i64 (-1), .int .i64 (-1), .int .i64 0, .int .i64 1, .int .i64 0, .int .i64 0, .int .i64 1] 79)) #[.int .i64 (-1), .int .i64 (-1), .int .i64 1, .int .i64 (-1), .int .i64 (-1), .int .i64 1, .int .i64 1, .int .i64 1] 79 (flat2 stepX) rfl)
    rw [World.size_alloc] at hn
    have HN := Lib.hid hn
    have HO1 := Lib.hid (flat2_all1 stepX)
    clear hn
    have h5 := World.ownsRow.alloc H4.out (.cells #[.int .i64 (-1), .int .i64 (-1), .int .i64 1, .int .i64 (-1), .int .i64 (-1), .int .i64 1, .int .i64 1, .int .i64 1] 79)
    have H5 := Lib.hid h5
    clear h5
    go_enter Tryd.func100, Tryd.ntmps100
    go_wp2_with (at_builtin; refine wpList_append_own _ rfl _ _ 34 rfl w.heap.size 79 i0 (.agg #[.int .i64 0, .int .i64 0]) 2 16 Tryd.underlying34 hi hz0 hz1 hz2 rfl (by decide) _ _ _ rfl H5.out ⟨w.heap.size + 1, 0, none⟩ 4 4 (flat2 stepX) rfl rfl HN.out HO1.out (by unfold maxLen; omega) (by omega) (by simp; omega) ?_)
    intro v' w5 hown' hgr _
    have hb5 : Below w.heap.size w w5 := (Joins.below_alloc2 w _ _).grown hgr (by simp; omega) (fun k hk => (H5.out.lt k hk).1)
    have HB5 := Lib.hid hb5
    have HO5 : Hid (OwnS w5 w.heap.size v' (stepL true)) := hown'
    obtain ⟨g', c', rfl⟩ := Joins.ownsRow_form hown' (by omega)
    clear hown' hgr hb5
    go_wp2
    go_ret
    exact ⟨_, _, _, rfl, HO5.out, HB5.out⟩
end Go.Proofs.YtenbhnfajjknkaaDoor
