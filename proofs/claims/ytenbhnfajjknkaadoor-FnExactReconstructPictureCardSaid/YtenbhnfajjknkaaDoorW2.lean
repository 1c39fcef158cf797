/- Contracts of single functions, and plain lemmas, on which the exact laws of this seat rest; each holds under the conditions that it states. -/
import Derived.Test.YtenbhnfajjknkaaDoorQc
import Derived.Test.YtenbhnfajjknkaaDoorPb
namespace Go.Proofs.YtenbhnfajjknkaaDoor
set_option linter.unusedVariables false
set_option linter.unusedSimpArgs false
open Go.RowKit

/-! ### what is reached -/
def addS (q d : Int × Int) : Int × Int := (q.1 + d.1, q.2 + d.2)
def pAt (p : Int → Int → Bool) (q : Int × Int) : Bool := p q.1 q.2
/-- the spots that are reached from some by steps over black pixels -/
inductive Reach (p : Int → Int → Bool) (S xs : List (Int × Int)) : Int × Int → Prop
  | seed {q : Int × Int} : q ∈ xs → pAt p q = true → Reach p S xs q
  | step {q d : Int × Int} : Reach p S xs q → d ∈ S → pAt p (addS q d) = true → Reach p S xs (addS q d)
theorem Reach.black {p : Int → Int → Bool} {S xs : List (Int × Int)} {q : Int × Int} (h : Reach p S xs q) : pAt p q = true := by
  cases h with
  | seed _ h => exact h
  | step _ _ h => exact h

theorem count_set_true : ∀ (bs : List Bool) (i : Nat), bs[i]? = some false → (bs.set i true).count true = bs.count true + 1
  | [], i, h => by simp at h
  | c :: bs, 0, h => by
    simp at h
    subst h
    simp
  | c :: bs, i + 1, h => by
    have := count_set_true bs i (by simpa using h)
    rw [List.set_cons_succ, List.count_cons, List.count_cons, this]
    omega

/-- where a search stands: the marks, the queue; the first i of the queue are done, of the next one the first k steps -/
structure Bfs (p : Int → Int → Bool) (S xs : List (Int × Int)) (a b m i k : Nat) (bs : List Bool) (Q : List (Int × Int)) : Prop where
  len : bs.length = a * b
  hi : i ≤ Q.length
  hk : k = 0 ∨ i < Q.length
  cnt : bs.count true = Q.length
  mem : ∀ q ∈ Q, Reach p S xs q
  mark : ∀ x y : Nat, x < a → y < b → (bs.getD (y * a + x) false = true ↔ ((x : Int), (y : Int)) ∈ Q)
  seeds : ∀ j, j < m → ∀ q, xs[j]? = some q → pAt p q = true → q ∈ Q
  done : ∀ j, j < i → ∀ q, Q[j]? = some q → ∀ d ∈ S, pAt p (addS q d) = true → addS q d ∈ Q
  part : ∀ q, Q[i]? = some q → ∀ j, j < k → ∀ d, S[j]? = some d → pAt p (addS q d) = true → addS q d ∈ Q
section
variable {p : Int → Int → Bool} {S xs : List (Int × Int)} {a b m i k : Nat} {bs : List Bool} {Q : List (Int × Int)}
theorem Bfs.qlen (h : Bfs p S xs a b m i k bs Q) : Q.length ≤ a * b := by
  rw [← h.cnt, ← h.len]
  exact List.count_le_length
theorem Bfs.start (p : Int → Int → Bool) (S xs : List (Int × Int)) (a b : Nat) : Bfs p S xs a b 0 0 0 (List.replicate (a * b) false) [] := by
  refine ⟨by simp, Nat.zero_le _, Or.inl rfl, by rw [List.count_replicate]; rfl, fun q h => by simp at h, fun x y hx hy => ?_, fun j h => absurd h (Nat.not_lt_zero j), fun j h => absurd h (Nat.not_lt_zero j), fun q h => by simp at h⟩
  constructor
  · intro h
    rw [List.getD_eq_getElem?_getD, List.getElem?_replicate] at h
    split at h <;> simp at h
  · intro h
    simp at h
theorem at_lt {x y : Nat} (hx : x < a) (hy : y < b) : y * a + x < a * b := by
  have : (y + 1) * a ≤ b * a := Nat.mul_le_mul hy (Nat.le_refl _)
  rw [Nat.add_mul, Nat.one_mul] at this
  rw [Nat.mul_comm a b]
  omega
theorem at_inj {x y x' y' : Nat} (hx : x < a) (hx' : x' < a) (h : y * a + x = y' * a + x') : x = x' ∧ y = y' := by
  have e1 : (y * a + x) % a = x := by rw [Nat.mul_comm, Nat.mul_add_mod, Nat.mod_eq_of_lt hx]
  have e2 : (y' * a + x') % a = x' := by rw [Nat.mul_comm, Nat.mul_add_mod, Nat.mod_eq_of_lt hx']
  have hxx : x = x' := by rw [← e1, ← e2, h]
  subst hxx
  refine ⟨rfl, ?_⟩
  exact Nat.eq_of_mul_eq_mul_right (by omega : 0 < a) (by omega)
/-- one more is marked and put into the queue -/
theorem Bfs.push (h : Bfs p S xs a b m i k bs Q) {x y : Nat} (hx : x < a) (hy : y < b) (hr : Reach p S xs ((x : Int), (y : Int))) (hu : bs[y * a + x]? = some false) :
    Bfs p S xs a b m i k (bs.set (y * a + x) true) (Q ++ [((x : Int), (y : Int))]) := by
  have hn : ((x : Int), (y : Int)) ∉ Q := by
    intro hq
    have := (h.mark x y hx hy).2 hq
    rw [List.getD_eq_getElem?_getD, hu] at this
    cases this
  refine ⟨by rw [List.length_set]; exact h.len, by rw [List.length_append]; have := h.hi; omega, by rw [List.length_append]; rcases h.hk with e | e; exact Or.inl e; exact Or.inr (by omega), ?_, ?_, ?_, ?_, ?_, ?_⟩
  · rw [count_set_true bs _ hu, h.cnt, List.length_append]
    rfl
  · intro q hq
    rcases List.mem_append.1 hq with hq | hq
    · exact h.mem q hq
    · obtain rfl := List.mem_singleton.1 hq
      exact hr
  · intro x' y' hx' hy'
    by_cases e : y' * a + x' = y * a + x
    · obtain ⟨rfl, rfl⟩ := at_inj hx' hx e
      constructor
      · intro _; exact List.mem_append_right _ (List.mem_singleton.2 rfl)
      · intro _
        rw [List.getD_eq_getElem?_getD, List.getElem?_set_self (by rw [h.len]; exact at_lt hx hy)]
        rfl
    · have e2 : (bs.set (y * a + x) true).getD (y' * a + x') false = bs.getD (y' * a + x') false := by
        rw [List.getD_eq_getElem?_getD, List.getD_eq_getElem?_getD, List.getElem?_set_ne (by omega)]
      rw [e2, h.mark x' y' hx' hy']
      constructor
      · intro hq; exact List.mem_append_left _ hq
      · intro hq
        rcases List.mem_append.1 hq with hq | hq
        · exact hq
        · have := List.mem_singleton.1 hq
          have h1 : (x' : Int) = (x : Int) := congrArg Prod.fst this
          have h2 : (y' : Int) = (y : Int) := congrArg Prod.snd this
          have h3 : x' = x := by omega
          have h4 : y' = y := by omega
          subst h3; subst h4
          exact absurd rfl e
  · intro j hj q hq hb
    exact List.mem_append_left _ (h.seeds j hj q hq hb)
  · intro j hj q hq d hd hb
    have hjl : j < Q.length := Nat.lt_of_lt_of_le hj h.hi
    rw [List.getElem?_append_left hjl] at hq
    exact List.mem_append_left _ (h.done j hj q hq d hd hb)
  · intro q hq j hj d hd hb
    have hil : i < Q.length := by rcases h.hk with e | e; omega; exact e
    rw [List.getElem?_append_left hil] at hq
    exact List.mem_append_left _ (h.part q hq j hj d hd hb)
/-- a seed is done -/
theorem Bfs.seeded (h : Bfs p S xs a b m i k bs Q) (hq : ∀ q, xs[m]? = some q → pAt p q = true → q ∈ Q) : Bfs p S xs a b (m + 1) i k bs Q :=
  { h with
    seeds := fun j hj q e hb => by
      by_cases ej : j = m
      · subst ej; exact hq q e hb
      · exact h.seeds j (by omega) q e hb }
/-- a step is done -/
theorem Bfs.stepped (h : Bfs p S xs a b m i k bs Q) (hi : i < Q.length) (hq : ∀ q, Q[i]? = some q → ∀ d, S[k]? = some d → pAt p (addS q d) = true → addS q d ∈ Q) : Bfs p S xs a b m i (k + 1) bs Q :=
  { h with
    hk := Or.inr hi
    part := fun q e j hj d ed hb => by
      by_cases ej : j = k
      · subst ej; exact hq q e d ed hb
      · exact h.part q e j (by omega) d ed hb }
/-- one of the queue is done -/
theorem Bfs.next (h : Bfs p S xs a b m i S.length bs Q) (hi : i < Q.length) : Bfs p S xs a b m (i + 1) 0 bs Q :=
  { h with
    hi := hi
    hk := Or.inl rfl
    done := fun j hj q e d hd hb => by
      by_cases ej : j = i
      · subst ej
        obtain ⟨n, hn, hnd⟩ := List.mem_iff_getElem.1 hd
        exact h.part q e n hn d (by rw [List.getElem?_eq_getElem hn, hnd]) hb
      · exact h.done j (by omega) q e d hd hb
    part := fun q e j hj => absurd hj (Nat.not_lt_zero j) }
/-- all is reached -/
theorem Bfs.all (h : Bfs p S xs a b xs.length Q.length k bs Q) (q : Int × Int) : Reach p S xs q ↔ q ∈ Q := by
  constructor
  · intro hr
    induction hr with
    | seed hx hb =>
      obtain ⟨n, hn, e⟩ := List.mem_iff_getElem.1 hx
      exact h.seeds n hn _ (by rw [List.getElem?_eq_getElem hn, e]) hb
    | step _ hd hb ih =>
      obtain ⟨n, hn, e⟩ := List.mem_iff_getElem.1 ih
      exact h.done n hn _ (by rw [List.getElem?_eq_getElem hn, e]) _ hd hb
  · intro hq
    exact h.mem q hq
end
end Go.Proofs.YtenbhnfajjknkaaDoor

/- Contracts of single functions, and plain lemmas, on which the exact laws of this seat rest; each holds under the conditions that it states. -/
namespace Go.Proofs.YtenbhnfajjknkaaDoor
set_option linter.unusedVariables false
set_option linter.unusedSimpArgs false
open Go.RowKit

def step4 : List (Int × Int) := [(0, -1), (-1, 0), (1, 0), (0, 1)]
def stepX : List (Int × Int) := [(-1, -1), (1, -1), (-1, 1), (1, 1)]
def stepL (e8 : Bool) : List (Int × Int) := if e8 then step4 ++ stepX else step4
theorem stepL_rng (e8 : Bool) : ∀ d ∈ stepL e8, (-1 ≤ d.1 ∧ d.1 ≤ 1) ∧ (-1 ≤ d.2 ∧ d.2 ≤ 1) := by
  cases e8 <;> decide
theorem flat2_all1 (xs : List (Int × Int)) : ∀ u ∈ flat2 xs, u.oneCell' = true := by
  intro u hu
  unfold flat2 at hu
  obtain ⟨j, _, rfl⟩ := List.mem_map.1 hu
  rfl
theorem news_lit (w : World) (cs : Array Value) (t : TypeId) (xs : List Value) (h : cs.toList = xs) : ∀ j u, xs[j]? = some u → (w.alloc (.cells cs t)).cell? ((⟨w.heap.size, 0, none⟩ : Addr).add j) = some u := by
  intro j u hj
  subst h
  rw [Addr.add_mid, Nat.zero_add, Joins.cell_of_block (heap_alloc_last w _) j]
  simpa using hj

set_option maxHeartbeats 2000000 in
set_option maxRecDepth 100000 in
theorem l03Steps_any (e8 : Bool) (w : World) :
    Calls Tryd.prog 100 #[.bool e8] w (fun e w' => ∃ ao n cap, e = .returned (.slice ao n cap) ∧ OwnS w' w.heap.size (.slice ao n cap) (stepL e8) ∧ Below w.heap.size w w') := by
  obtain ⟨i0, hi, hz0, hz1, hz2⟩ := info_parts infoSp
  have H4 : Hid ((w.alloc (.cells #[.int .i64 0, .int .i64 (-1), .int .i64 (-1), .int .i64 0, .int .i64 1, .int .i64 0, .int .i64 0, .int .i64 1] 79)).ownsRow w.heap.size 79 2 (.slice (some ⟨w.heap.size, 0, none⟩) 4 4) 4 (flat2 step4)) :=
    World.ownsRow_lit (base := w.heap.size) (e := 79) (size := 2) w _ 4 (Nat.le_refl _) (by unfold maxLen; omega) rfl
  cases e8 with
  | false =>
    go_enter Tryd.func100, Tryd.ntmps100
    go_wp2
    go_ret
    exact ⟨_, _, _, rfl, H4.out, Joins.below_alloc1 _ _⟩
  | true =>
    have hn := (news_lit (w.alloc (.cells #[.int .i64 0, .int .i64 (-1), .int .i64 (-1), .int .i64 0, .int .i64 1, .int .i64 0, .int .i64 0, .int .i64 1] 79)) #[.int .i64 (-1), .int .i64 (-1), .int .i64 1, .int .i64 (-1), .int .i64 (-1), .int .i64 1, .int .i64 1, .int .i64 1] 79 (flat2 stepX) rfl)
    rw [World.size_alloc] at hn
    have HN := Lib.hid hn
    have HO1 := Lib.hid (flat2_all1 stepX)
    clear hn
    have h5 := World.ownsRow.alloc H4.out (.cells #[.int .i64 (-1), .int .i64 (-1), .int .i64 1, .int .i64 (-1), .int .i64 (-1), .int .i64 1, .int .i64 1, .int .i64 1] 79)
    have H5 := Lib.hid h5
    clear h5
    go_enter Tryd.func100, Tryd.ntmps100
    go_wp2_with (at_builtin; refine wpList_append_own _ rfl _ _ 34 rfl w.heap.size 79 i0 (.agg #[.int .i64 0, .int .i64 0]) 2 16 Tryd.underlying34 hi hz0 hz1 hz2 rfl (by decide) _ _ _ rfl H5.out ⟨w.heap.size + 1, 0, none⟩ 4 4 (flat2 stepX) rfl rfl HN.out HO1.out (by unfold maxLen; omega) (by omega) (by simp; omega) ?_)
    intro v' w5 hown' hgr _
    have hb5 : Below w.heap.size w w5 := (Joins.below_alloc2 w _ _).grown hgr (by simp; omega) (fun k hk => (H5.out.lt k hk).1)
    have HB5 := Lib.hid hb5
    have HO5 : Hid (OwnS w5 w.heap.size v' (stepL true)) := hown'
    obtain ⟨g', c', rfl⟩ := Joins.ownsRow_form hown' (by omega)
    clear hown' hgr hb5
    go_wp2
    go_ret
    exact ⟨_, _, _, rfl, HO5.out, HB5.out⟩
end Go.Proofs.YtenbhnfajjknkaaDoor
