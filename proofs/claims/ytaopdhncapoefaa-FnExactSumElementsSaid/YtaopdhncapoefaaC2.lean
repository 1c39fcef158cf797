/- Contracts of single functions, and plain lemmas, on which the exact laws of this seat rest; each holds under the conditions that it states. -/
import Derived.Test.YtaopdhncapoefaaAr
import Derived.Test.YtaopdhncapoefaaA5
import Derived.Test.YtaopdhncapoefaaAy
import Derived.Test.YtaopdhncapoefaaAc
import Derived.BigRegion
import Derived.Deep.RegionHeld3
namespace Go.Proofs.Ytaopdhncapoefaa
set_option linter.unusedVariables false
set_option linter.unusedSimpArgs false
open Go.RowKit

theorem own_len {w : World} {base g n cap : Nat} {xs : List (Int × Int)} (h : OwnS w base (.slice (some ⟨g, 0, none⟩) n cap) xs) : n = xs.length := by
  rcases h.2 with ⟨h1, _⟩ | ⟨g', c', cur, h1, _⟩
  · cases h1
  · cases h1; rfl
theorem ElSt.start2 {w w1 : World} {R : Nat} (hR : w1.heap[R]? = some (.cells #[.slice none 0 0] 28 (0, 0))) (hb : Below w.heap.size w w1) (hge : w.heap.size ≤ R) :
    ElSt w ((w1.alloc (.cells #[] 55)).alloc (.cells #[.slice (some ⟨w1.heap.size, 0, none⟩) 0 0] 28)) R (w1.heap.size + 1) (.slice (some ⟨w1.heap.size, 0, none⟩) 0 0) [] := by
  have lR := (Array.getElem?_eq_some_iff.1 hR).1
  refine ⟨?_, ?_, ?_, (hb.alloc hb.size _).alloc (by simp; have := hb.size; omega) _, by have := hb.size; omega, hge, by omega⟩
  · rw [Below.heap_alloc _ _ _ (by simp; omega), Below.heap_alloc _ _ _ lR]; exact hR
  · have := heap_alloc_last (w1.alloc (.cells #[] 55)) (.cells #[.slice (some ⟨w1.heap.size, 0, none⟩) 0 0] 28)
    rwa [World.size_alloc] at this
  · have := World.ownsRow_lit (base := w.heap.size) (e := 55) (size := 2) w1 #[] 0 hb.size (by unfold maxLen; omega) rfl
    exact World.ownsRow.alloc this _

theorem ElSt.put {w W W' : World} {R B g n cap g' n' cap' : Nat} {L L' : List (Int × Int)} (h : ElSt w W R B (.slice (some ⟨g, 0, none⟩) n cap) L)
    (ho : OwnS W' w.heap.size (.slice (some ⟨g', 0, none⟩) n' cap') L') (hg : W.grownBy W' (some g)) :
    W'.heap[B]? = some (.cells #[.slice (some ⟨g, 0, none⟩) n cap] 28 (0, 0)) ∧ ElSt w (W'.setCell ⟨B, 0, none⟩ (.slice (some ⟨g', 0, none⟩) n' cap')) R B (.slice (some ⟨g', 0, none⟩) n' cap') L' := by
  have hb := var_far h.b h.own (by decide) hg
  have hr := var_far h.r h.own (by decide) hg
  have hbel : Below w.heap.size w W' := h.bel.grown hg h.bel.size (fun k hk => by cases hk; exact (h.own.lt g rfl).1)
  exact ⟨hb, ⟨(Below.heap_setCell _ _ _ _ (by exact h.ne)).trans hr, one_setCell hb, own_set ho hb (by decide), hbel.setCell h.geB _, h.geB, h.geR, h.ne⟩⟩
end Go.Proofs.Ytaopdhncapoefaa

/- Contracts of single functions, and plain lemmas, on which the exact laws of this seat rest; each holds under the conditions that it states. -/
namespace Go.Proofs.Ytaopdhncapoefaa
set_option linter.unusedVariables false
set_option linter.unusedSimpArgs false
open Go.RowKit

/-- the sums that have been put in are the first t -/
def SumP (S : List (Int × Int)) (t : Nat) (L : List (Int × Int)) : Prop := Srt L ∧ L.length ≤ t ∧ ∀ q, q ∈ L ↔ q ∈ S.take t
theorem SumP.zero (S : List (Int × Int)) : SumP S 0 [] := ⟨List.Pairwise.nil, Nat.le_refl _, fun q => by simp⟩
theorem SumP.snoc {S L zs : List (Int × Int)} {t : Nat} {p : Int × Int} (h : SumP S t L) (hp : S.take (t + 1) = S.take t ++ [p]) (hs : Srt zs) (hl : zs.length ≤ L.length + 1) (hm : ∀ q, q ∈ zs ↔ (q = p ∨ q ∈ L)) : SumP S (t + 1) zs := by
  refine ⟨hs, by have := h.2.1; omega, fun q => ?_⟩
  rw [hm q, h.2.2 q, hp, List.mem_append, List.mem_singleton]
  exact Or.comm
/-- an element that is the list in order of some spots -/
def SaysSum (S : List (Int × Int)) (w : World) (e : Ending) (w' : World) : Prop :=
  ∃ g cap L, e = .returned (.agg #[.slice (some ⟨g, 0, none⟩) L.length cap]) ∧ Srt L ∧ (∀ q, q ∈ L ↔ q ∈ S) ∧ L.length ≤ S.length ∧ OwnS w' w.heap.size (.slice (some ⟨g, 0, none⟩) L.length cap) L ∧ Below w.heap.size w w'

set_option maxHeartbeats 4000000 in
set_option maxRecDepth 100000 in
theorem l03Sum_any (ga gb : Nat) (u v : Value) (xs ys : List (Int × Int)) (w : World) (hga : w.heap[ga]? = some (.cells #[u] 28 (0, 0))) (hgb : w.heap[gb]? = some (.cells #[v] 28 (0, 0))) (hN : xs.length ≤ 50) (hM : ys.length ≤ 50)
    (hrx : ∀ i, i < xs.length → (-4 ≤ (xs.getD i (0, 0)).1 ∧ (xs.getD i (0, 0)).1 ≤ 4) ∧ (-4 ≤ (xs.getD i (0, 0)).2 ∧ (xs.getD i (0, 0)).2 ≤ 4)) (hry : ∀ i, i < ys.length → (-4 ≤ (ys.getD i (0, 0)).1 ∧ (ys.getD i (0, 0)).1 ≤ 4) ∧ (-4 ≤ (ys.getD i (0, 0)).2 ∧ (ys.getD i (0, 0)).2 ≤ 4))
    (hu : SlS w u xs) (hv : SlS w v ys) :
    Calls Try.prog 21 #[.pointer (some ⟨ga, 0, none⟩), .pointer (some ⟨gb, 0, none⟩)] w (SaysSum (sumL xs ys) w) := by
  obtain ⟨ao, cap, rfl, hsx⟩ := sl_form hu
  obtain ⟨ao2, cap2, rfl, hsy⟩ := sl_form hv
  have HA : Hid (∀ W, Below w.heap.size w W → W.cell? ⟨ga, 0, none⟩ = some (.slice ao xs.length cap)) := fun W hb => cell_kept hb (cell_of_one hga)
  have HC : Hid (∀ W, Below w.heap.size w W → W.cell? ⟨gb, 0, none⟩ = some (.slice ao2 ys.length cap2)) := fun W hb => cell_kept hb (cell_of_one hgb)
  have HSx : Hid (∀ W, Below w.heap.size w W → 0 < xs.length → ∃ b, ao = some ⟨b, 0, none⟩ ∧ Spots W b xs) := fun W hb h => by
    obtain ⟨b, e, hs⟩ := hsx h
    exact ⟨b, e, hs.below hb⟩
  have HSy : Hid (∀ W, Below w.heap.size w W → 0 < ys.length → ∃ b, ao2 = some ⟨b, 0, none⟩ ∧ Spots W b ys) := fun W hb h => by
    obtain ⟨b, e, hs⟩ := hsy h
    exact ⟨b, e, hs.below hb⟩
  have HRx := Lib.hid hrx
  have HRy := Lib.hid hry
  have HTk : Hid (∀ i k, i < xs.length → k < ys.length → (sumL xs ys).take (i * ys.length + k + 1) = (sumL xs ys).take (i * ys.length + k) ++ [((xs.getD i (0, 0)).1 + (ys.getD k (0, 0)).1, (xs.getD i (0, 0)).2 + (ys.getD k (0, 0)).2)]) := fun i k hi hk => by
    have hlt : i * ys.length + k < (sumL xs ys).length := by
      have : (i + 1) * ys.length ≤ xs.length * ys.length := Nat.mul_le_mul hi (Nat.le_refl _)
      rw [Nat.add_mul, Nat.one_mul] at this
      rw [sumL_len]; omega
    have h := take_more hlt
    rw [sumL_at xs ys hi hk] at h
    exact h
  have HAllT : Hid ((sumL xs ys).take (xs.length * ys.length) = sumL xs ys ∧ (sumL xs ys).length = xs.length * ys.length) := ⟨by rw [← sumL_len]; exact List.take_length, sumL_len xs ys⟩
  obtain ⟨S, hS⟩ : ∃ L, sumL xs ys = L := ⟨_, rfl⟩
  rw [hS] at HTk HAllT ⊢
  obtain ⟨n, hn⟩ : ∃ n, xs.length = n := ⟨_, rfl⟩
  obtain ⟨m, hm⟩ : ∃ m, ys.length = m := ⟨_, rfl⟩
  have Hn := Lib.hid hn
  have Hm := Lib.hid hm
  rw [hn] at HTk HRx HAllT HSx HA hN
  rw [hm] at HTk HRy HAllT HSy HC hM
  have I0 := Lib.hid (ElSt.start w)
  clear hS hn hm hrx hry hu hv hsx hsy hga hgb
  go_enter Try.func21, Try.ntmps21
  go_wp2
  go_loopw [6] (fun iv wr => ∃ (i g cap' : Nat) (L : List (Int × Int)), i ≤ n ∧ iv = .int .i64 i ∧ Hid (ElSt w wr w.heap.size (w.heap.size + 1 + 1) (.slice (some ⟨g, 0, none⟩) L.length cap') L) ∧ Hid (SumP S (i * m) L)) (fun iv _ => n - (intOf iv).toNat)
  case atStart => exact ⟨0, w.heap.size + 1, 0, [], Nat.zero_le _, rfl, I0.out, by rw [Nat.zero_mul]; exact SumP.zero S⟩
  case round =>
    clear I0
    obtain ⟨i, g, cap', L, hi, rfl, HS, HP⟩ := hrel
    have a0 := HA.out _ HS.out.bel
    by_cases hlt : i < n
    · have klt : (i : Int) < (n : Int) := by omega
      have him : i * m ≤ 2500 := Nat.mul_le_mul (Nat.le_trans hi hN) hM
      go_wp2
      clear a0
      go_loopw [7] (fun kv wr => ∃ (k g cap' : Nat) (L : List (Int × Int)), k ≤ m ∧ kv = .int .i64 k ∧ Hid (ElSt w wr w.heap.size (w.heap.size + 1 + 1) (.slice (some ⟨g, 0, none⟩) L.length cap') L) ∧ Hid (SumP S (i * m + k) L)) (fun kv _ => m - (intOf kv).toNat)
      case atStart => exact ⟨0, g, cap', L, Nat.zero_le _, rfl, HS.out, HP.out⟩
      case round =>
        clear HS HP g cap' L
        obtain ⟨k, g, cap', L, hk, rfl, HS, HP⟩ := hrel
        have a0 := HA.out _ HS.out.bel
        have a1 := HC.out _ HS.out.bel
        by_cases hltk : k < m
        · have kltk : (k : Int) < (m : Int) := by omega
          obtain ⟨b, rfl, hbl, hcs⟩ := HSx.out _ (Below.refl _ _) (by omega)
          obtain ⟨b2, rfl, hbl2, hcs2⟩ := HSy.out _ (Below.refl _ _) (by omega)
          have p0 := (hcs i (by rw [Hn.out]; exact hlt)).1
          have p1 := (hcs i (by rw [Hn.out]; exact hlt)).2
          have q0 := (hcs2 k (by rw [Hm.out]; exact hltk)).1
          have q1 := (hcs2 k (by rw [Hm.out]; exact hltk)).2
          obtain ⟨⟨r1, r2⟩, r3, r4⟩ := HRx.out i hlt
          obtain ⟨⟨s1, s2⟩, s3, s4⟩ := HRy.out k hltk
          have htk := HTk.out i k hlt hltk
          obtain ⟨x, hx⟩ : ∃ x, (xs.getD i (0, 0)).1 = x := ⟨_, rfl⟩
          obtain ⟨y, hy⟩ : ∃ y, (xs.getD i (0, 0)).2 = y := ⟨_, rfl⟩
          obtain ⟨x2, hx2⟩ : ∃ x, (ys.getD k (0, 0)).1 = x := ⟨_, rfl⟩
          obtain ⟨y2, hy2⟩ : ∃ y, (ys.getD k (0, 0)).2 = y := ⟨_, rfl⟩
          rw [hx] at p0 r1 r2 htk
          rw [hy] at p1 r3 r4 htk
          rw [hx2] at q0 s1 s2 htk
          rw [hy2] at q1 s3 s4 htk
          have HSn := Lib.hid (fun zs => @SumP.snoc S L zs (i * m + k) _ HP.out htk)
          have HSd := Lib.hid (HS.out.below (Below.refl _ _).drew)
          have hLl := HP.out.2.1
          have CP := Lib.hid (l03Put_any w.heap.size g cap' L (x + x2) (y + y2) wr.drew HP.out.1 (by omega) HSd.out.own)
          have e1 : IntKind.i64.wrap (x + x2) = x + x2 := IntWalk.i64_in _ (by omega)
          have e2 : IntKind.i64.wrap (y + y2) = y + y2 := IntWalk.i64_in _ (by omega)
          have b0 := HS.out.cell
          have lB := HS.out.ltB
          have HBr := Lib.hid HS.out.bel
          have HBd := Lib.hid HS.out.bel.drew
          have HKp : Hid (∀ W, Below w.heap.size w W → (W.cell? ⟨ga, 0, none⟩ = some (.slice (some ⟨b, 0, none⟩) n cap) ∧ W.cell? ⟨gb, 0, none⟩ = some (.slice (some ⟨b2, 0, none⟩) m cap2) ∧ W.cell? ⟨b, i * 2, none⟩ = some (.int .i64 x) ∧ W.cell? ⟨b, i * 2 + 1, none⟩ = some (.int .i64 y) ∧ W.cell? ⟨b2, k * 2, none⟩ = some (.int .i64 x2) ∧ W.cell? ⟨b2, k * 2 + 1, none⟩ = some (.int .i64 y2))) := fun W hb => ⟨HA.out W hb, HC.out W hb, cell_kept hb p0, cell_kept hb p1, cell_kept hb q0, cell_kept hb q1⟩
          clear hx hy hx2 hy2 hcs hcs2 p0 p1 q0 q1 HP HS htk hbl hbl2
          go_wp2_with fail
          refine wp_region_held_drew (S := fun w' => w'.cell? ⟨ga, 0, none⟩ = some (.slice (some ⟨b, 0, none⟩) n cap) ∧ w'.cell? ⟨gb, 0, none⟩ = some (.slice (some ⟨b2, 0, none⟩) m cap2) ∧ w'.cell? ⟨b, i * 2, none⟩ = some (.int .i64 x) ∧ w'.cell? ⟨b, i * 2 + 1, none⟩ = some (.int .i64 y) ∧ w'.cell? ⟨b2, k * 2, none⟩ = some (.int .i64 x2) ∧ w'.cell? ⟨b2, k * 2 + 1, none⟩ = some (.int .i64 y2)) (by kernel_rfl) ?_ (fun hHeld => ?_)
          · exact HKp.out _ HBd.out
          refine' wpAnyH_take (i := 0) (oi := _) (v := _) rfl (by kernel_rfl) (by kernel_rfl) (by kernel_rfl) (fun _ _ _ h => h) (Or.inl ⟨by rfl, fun w hSw => ?hy0⟩) hHeld ?rest0
          case hy0 => (simp only [List.getElem_toArray, List.getElem_cons_succ, List.getElem_cons_zero]; (try dsimp only at hSw); go_simp; try with_reducible rfl)
          try simp only [List.getElem_toArray, List.getElem_cons_succ, List.getElem_cons_zero, Act.put, List.setIfInBounds_toArray, List.set_cons_zero, List.set_cons_succ]
          refine' wpAnyH_take (i := 2) (oi := _) (v := _) rfl (by kernel_rfl) (by kernel_rfl) (by kernel_rfl) (fun _ _ _ h => h) (Or.inl ⟨by rfl, fun w hSw => ?hy2⟩) hHeld ?rest2
          case hy2 => (simp only [List.getElem_toArray, List.getElem_cons_succ, List.getElem_cons_zero]; (try dsimp only at hSw); go_simp; try with_reducible rfl)
          try simp only [List.getElem_toArray, List.getElem_cons_succ, List.getElem_cons_zero, Act.put, List.setIfInBounds_toArray, List.set_cons_zero, List.set_cons_succ]
          refine' wpAnyH_take (i := 3) (oi := _) (v := _) rfl (by kernel_rfl) (by kernel_rfl) (by kernel_rfl) (fun _ _ _ h => h) (Or.inl ⟨by rfl, fun w hSw => ?hy3⟩) hHeld ?rest3
          case hy3 => (simp only [List.getElem_toArray, List.getElem_cons_succ, List.getElem_cons_zero]; (try dsimp only at hSw); go_simp; try with_reducible rfl)
          try simp only [List.getElem_toArray, List.getElem_cons_succ, List.getElem_cons_zero, Act.put, List.setIfInBounds_toArray, List.set_cons_zero, List.set_cons_succ]
          refine' wpAnyH_take (i := 4) (oi := _) (v := _) rfl (by kernel_rfl) (by kernel_rfl) (by kernel_rfl) (fun _ _ _ h => h) (Or.inl ⟨by rfl, fun w hSw => ?hy4⟩) hHeld ?rest4
          case hy4 => (simp only [List.getElem_toArray, List.getElem_cons_succ, List.getElem_cons_zero]; (try dsimp only at hSw); go_simp; try with_reducible rfl)
          try simp only [List.getElem_toArray, List.getElem_cons_succ, List.getElem_cons_zero, Act.put, List.setIfInBounds_toArray, List.set_cons_zero, List.set_cons_succ]
          refine' wpAnyH_take (i := 5) (oi := _) (v := _) rfl (by kernel_rfl) (by kernel_rfl) (by kernel_rfl) (fun _ _ _ h => h) (Or.inl ⟨by rfl, fun w hSw => ?hy5⟩) hHeld ?rest5
          case hy5 => (simp only [List.getElem_toArray, List.getElem_cons_succ, List.getElem_cons_zero]; (try dsimp only at hSw); go_simp; try with_reducible rfl)
          try simp only [List.getElem_toArray, List.getElem_cons_succ, List.getElem_cons_zero, Act.put, List.setIfInBounds_toArray, List.set_cons_zero, List.set_cons_succ]
          refine' wpAnyH_take (i := 6) (oi := _) (v := _) rfl (by kernel_rfl) (by kernel_rfl) (by kernel_rfl) (fun _ _ _ h => h) (Or.inl ⟨by rfl, fun w hSw => ?hy6⟩) hHeld ?rest6
          case hy6 => (simp only [List.getElem_toArray, List.getElem_cons_succ, List.getElem_cons_zero]; (try dsimp only at hSw); go_simp; try with_reducible rfl)
          try simp only [List.getElem_toArray, List.getElem_cons_succ, List.getElem_cons_zero, Act.put, List.setIfInBounds_toArray, List.set_cons_zero, List.set_cons_succ]
          refine' wpAnyH_take (i := 7) (oi := _) (v := _) rfl (by kernel_rfl) (by kernel_rfl) (by kernel_rfl) (fun _ _ _ h => h) (Or.inl ⟨by rfl, fun w hSw => ?hy7⟩) hHeld ?rest7
          case hy7 => (simp only [List.getElem_toArray, List.getElem_cons_succ, List.getElem_cons_zero]; (try dsimp only at hSw); go_simp; try with_reducible rfl)
          try simp only [List.getElem_toArray, List.getElem_cons_succ, List.getElem_cons_zero, Act.put, List.setIfInBounds_toArray, List.set_cons_zero, List.set_cons_succ]
          refine' wpAnyH_take (i := 8) (oi := _) (v := _) rfl (by kernel_rfl) (by kernel_rfl) (by kernel_rfl) (fun _ _ _ h => h) (Or.inl ⟨by rfl, fun w hSw => ?hy8⟩) hHeld ?rest8
          case hy8 => (simp only [List.getElem_toArray, List.getElem_cons_succ, List.getElem_cons_zero]; (try dsimp only at hSw); go_simp; try with_reducible rfl)
          try simp only [List.getElem_toArray, List.getElem_cons_succ, List.getElem_cons_zero, Act.put, List.setIfInBounds_toArray, List.set_cons_zero, List.set_cons_succ]
          refine' wpAnyH_take (i := 9) (oi := _) (v := _) rfl (by kernel_rfl) (by kernel_rfl) (by kernel_rfl) (fun _ _ _ h => h) (Or.inl ⟨by rfl, fun w hSw => ?hy9⟩) hHeld ?rest9
          case hy9 => (simp only [List.getElem_toArray, List.getElem_cons_succ, List.getElem_cons_zero]; (try dsimp only at hSw); go_simp; try with_reducible rfl)
          try simp only [List.getElem_toArray, List.getElem_cons_succ, List.getElem_cons_zero, Act.put, List.setIfInBounds_toArray, List.set_cons_zero, List.set_cons_succ]
          refine' wpAnyH_take (i := 10) (oi := _) (v := _) rfl (by kernel_rfl) (by kernel_rfl) (by kernel_rfl) (fun _ _ _ h => h) (Or.inl ⟨by rfl, fun w hSw => ?hy10⟩) hHeld ?rest10
          case hy10 => (simp only [List.getElem_toArray, List.getElem_cons_succ, List.getElem_cons_zero]; (try dsimp only at hSw); go_simp; try with_reducible rfl)
          try simp only [List.getElem_toArray, List.getElem_cons_succ, List.getElem_cons_zero, Act.put, List.setIfInBounds_toArray, List.set_cons_zero, List.set_cons_succ]
          refine' wpAnyH_take (i := 11) (oi := _) (v := _) rfl (by kernel_rfl) (by kernel_rfl) (by kernel_rfl) (fun _ _ _ h => h) (Or.inl ⟨by rfl, fun w hSw => ?hy11⟩) hHeld ?rest11
          case hy11 => (simp only [List.getElem_toArray, List.getElem_cons_succ, List.getElem_cons_zero]; (try dsimp only at hSw); go_simp; try with_reducible rfl)
          try simp only [List.getElem_toArray, List.getElem_cons_succ, List.getElem_cons_zero, Act.put, List.setIfInBounds_toArray, List.set_cons_zero, List.set_cons_succ]
          refine' wpAnyH_take (i := 12) (oi := _) (v := _) rfl (by kernel_rfl) (by kernel_rfl) (by kernel_rfl) (fun _ _ _ h => h) (Or.inl ⟨by rfl, fun w hSw => ?hy12⟩) hHeld ?rest12
          case hy12 => (simp only [List.getElem_toArray, List.getElem_cons_succ, List.getElem_cons_zero]; (try dsimp only at hSw); go_simp; try with_reducible rfl)
          try simp only [List.getElem_toArray, List.getElem_cons_succ, List.getElem_cons_zero, Act.put, List.setIfInBounds_toArray, List.set_cons_zero, List.set_cons_succ]
          refine' wpAnyH_take (i := 13) (oi := _) (v := _) rfl (by kernel_rfl) (by kernel_rfl) (by kernel_rfl) (fun _ _ _ h => h) (Or.inl ⟨by rfl, fun w hSw => ?hy13⟩) hHeld ?rest13
          case hy13 => (simp only [List.getElem_toArray, List.getElem_cons_succ, List.getElem_cons_zero]; (try dsimp only at hSw); go_simp; try with_reducible rfl)
          try simp only [List.getElem_toArray, List.getElem_cons_succ, List.getElem_cons_zero, Act.put, List.setIfInBounds_toArray, List.set_cons_zero, List.set_cons_succ]
          refine' wpAnyH_take (i := 14) (oi := _) (v := _) rfl (by kernel_rfl) (by kernel_rfl) (by kernel_rfl) (fun _ _ _ h => h) (Or.inl ⟨by rfl, fun w hSw => ?hy14⟩) hHeld ?rest14
          case hy14 => (simp only [List.getElem_toArray, List.getElem_cons_succ, List.getElem_cons_zero]; (try dsimp only at hSw); go_simp; try with_reducible rfl)
          try simp only [List.getElem_toArray, List.getElem_cons_succ, List.getElem_cons_zero, Act.put, List.setIfInBounds_toArray, List.set_cons_zero, List.set_cons_succ]
          refine' wpAnyH_take (i := 15) (oi := _) (v := _) rfl (by kernel_rfl) (by kernel_rfl) (by kernel_rfl) (fun _ _ _ h => h) (Or.inl ⟨by rfl, fun w hSw => ?hy15⟩) hHeld ?rest15
          case hy15 => (simp only [List.getElem_toArray, List.getElem_cons_succ, List.getElem_cons_zero]; (try dsimp only at hSw); go_simp; try with_reducible rfl)
          try simp only [List.getElem_toArray, List.getElem_cons_succ, List.getElem_cons_zero, Act.put, List.setIfInBounds_toArray, List.set_cons_zero, List.set_cons_succ]
          refine' wpAnyH_take (i := 16) (oi := _) (v := _) rfl (by kernel_rfl) (by kernel_rfl) (by kernel_rfl) (fun _ _ _ h => h) (Or.inl ⟨by rfl, fun w hSw => ?hy16⟩) hHeld ?rest16
          case hy16 => (simp only [List.getElem_toArray, List.getElem_cons_succ, List.getElem_cons_zero]; (try dsimp only at hSw); go_simp; try with_reducible rfl)
          try simp only [List.getElem_toArray, List.getElem_cons_succ, List.getElem_cons_zero, Act.put, List.setIfInBounds_toArray, List.set_cons_zero, List.set_cons_succ]
          refine' wpAnyH_take (i := 17) (oi := _) (v := _) rfl (by kernel_rfl) (by kernel_rfl) (by kernel_rfl) (fun _ _ _ h => h) (Or.inl ⟨by rfl, fun w hSw => ?hy17⟩) hHeld ?rest17
          case hy17 => (simp only [List.getElem_toArray, List.getElem_cons_succ, List.getElem_cons_zero]; (try dsimp only at hSw); go_simp; try with_reducible rfl)
          try simp only [List.getElem_toArray, List.getElem_cons_succ, List.getElem_cons_zero, Act.put, List.setIfInBounds_toArray, List.set_cons_zero, List.set_cons_succ]
          refine' wpAnyH_take (i := 18) (oi := _) (v := _) rfl (by kernel_rfl) (by kernel_rfl) (by kernel_rfl) (fun _ _ _ h => h) (Or.inl ⟨by rfl, fun w hSw => ?hy18⟩) hHeld ?rest18
          case hy18 => (simp only [List.getElem_toArray, List.getElem_cons_succ, List.getElem_cons_zero]; (try dsimp only at hSw); go_simp; try with_reducible rfl)
          try simp only [List.getElem_toArray, List.getElem_cons_succ, List.getElem_cons_zero, Act.put, List.setIfInBounds_toArray, List.set_cons_zero, List.set_cons_succ]
          refine' wpAnyH_take (i := 19) (oi := _) (v := _) rfl (by kernel_rfl) (by kernel_rfl) (by kernel_rfl) (fun _ _ _ h => h) (Or.inl ⟨by rfl, fun w hSw => ?hy19⟩) hHeld ?rest19
          case hy19 => (simp only [List.getElem_toArray, List.getElem_cons_succ, List.getElem_cons_zero]; (try dsimp only at hSw); go_simp; try with_reducible rfl)
          try simp only [List.getElem_toArray, List.getElem_cons_succ, List.getElem_cons_zero, Act.put, List.setIfInBounds_toArray, List.set_cons_zero, List.set_cons_succ]
          refine' wpAnyH_take (i := 20) (oi := _) (v := _) rfl (by kernel_rfl) (by kernel_rfl) (by kernel_rfl) (fun _ _ _ h => h) (Or.inl ⟨by rfl, fun w hSw => ?hy20⟩) hHeld ?rest20
          case hy20 => (simp only [List.getElem_toArray, List.getElem_cons_succ, List.getElem_cons_zero]; (try dsimp only at hSw); go_simp; try with_reducible rfl)
          try simp only [List.getElem_toArray, List.getElem_cons_succ, List.getElem_cons_zero, Act.put, List.setIfInBounds_toArray, List.set_cons_zero, List.set_cons_succ]
          refine' wpAnyH_take (i := 21) (oi := _) (v := _) rfl (by kernel_rfl) (by kernel_rfl) (by kernel_rfl) (fun _ _ _ h => h) (Or.inl ⟨by rfl, fun w hSw => ?hy21⟩) hHeld ?rest21
          case hy21 => (simp only [List.getElem_toArray, List.getElem_cons_succ, List.getElem_cons_zero]; (try dsimp only at hSw); go_simp; try with_reducible rfl)
          try simp only [List.getElem_toArray, List.getElem_cons_succ, List.getElem_cons_zero, Act.put, List.setIfInBounds_toArray, List.set_cons_zero, List.set_cons_succ]
          refine' wpAnyH_take (i := 22) (oi := _) (v := _) rfl (by kernel_rfl) (by kernel_rfl) (by kernel_rfl) (fun _ _ _ h => h) (Or.inl ⟨by rfl, fun w hSw => ?hy22⟩) hHeld ?rest22
          case hy22 => (simp only [List.getElem_toArray, List.getElem_cons_succ, List.getElem_cons_zero]; (try dsimp only at hSw); go_simp; try with_reducible rfl)
          try simp only [List.getElem_toArray, List.getElem_cons_succ, List.getElem_cons_zero, Act.put, List.setIfInBounds_toArray, List.set_cons_zero, List.set_cons_succ]
          refine' wpAnyH_take (i := 23) (oi := _) (v := _) rfl (by kernel_rfl) (by kernel_rfl) (by kernel_rfl) (fun _ _ _ h => h) (Or.inl ⟨by rfl, fun w hSw => ?hy23⟩) hHeld ?rest23
          case hy23 => (simp only [List.getElem_toArray, List.getElem_cons_succ, List.getElem_cons_zero]; (try dsimp only at hSw); go_simp; try with_reducible rfl)
          try simp only [List.getElem_toArray, List.getElem_cons_succ, List.getElem_cons_zero, Act.put, List.setIfInBounds_toArray, List.set_cons_zero, List.set_cons_succ]
          refine' wpAnyH_take (i := 24) (oi := _) (v := _) rfl (by kernel_rfl) (by kernel_rfl) (by kernel_rfl) (fun _ _ _ h => h) (Or.inl ⟨by rfl, fun w hSw => ?hy24⟩) hHeld ?rest24
          case hy24 => (simp only [List.getElem_toArray, List.getElem_cons_succ, List.getElem_cons_zero]; (try dsimp only at hSw); go_simp; try with_reducible rfl)
          try simp only [List.getElem_toArray, List.getElem_cons_succ, List.getElem_cons_zero, Act.put, List.setIfInBounds_toArray, List.set_cons_zero, List.set_cons_succ]
          refine' wpAnyH_take (i := 25) (oi := _) (v := _) rfl (by kernel_rfl) (by kernel_rfl) (by kernel_rfl) (fun _ _ _ h => h) (Or.inl ⟨by rfl, fun w hSw => ?hy25⟩) hHeld ?rest25
          case hy25 => (simp only [List.getElem_toArray, List.getElem_cons_succ, List.getElem_cons_zero]; (try dsimp only at hSw); go_simp; try with_reducible rfl)
          try simp only [List.getElem_toArray, List.getElem_cons_succ, List.getElem_cons_zero, Act.put, List.setIfInBounds_toArray, List.set_cons_zero, List.set_cons_succ]
          refine' wpAnyH_take (i := 26) (oi := _) (v := _) rfl (by kernel_rfl) (by kernel_rfl) (by kernel_rfl) (fun _ _ _ h => h) (Or.inl ⟨by rfl, fun w hSw => ?hy26⟩) hHeld ?rest26
          case hy26 => (simp only [List.getElem_toArray, List.getElem_cons_succ, List.getElem_cons_zero]; (try dsimp only at hSw); go_simp; try with_reducible rfl)
          try simp only [List.getElem_toArray, List.getElem_cons_succ, List.getElem_cons_zero, Act.put, List.setIfInBounds_toArray, List.set_cons_zero, List.set_cons_succ]
          refine' wpAnyH_take (i := 27) (oi := _) (v := _) rfl (by kernel_rfl) (by kernel_rfl) (by kernel_rfl) (fun _ _ _ h => h) (Or.inl ⟨by rfl, fun w hSw => ?hy27⟩) hHeld ?rest27
          case hy27 => (simp only [List.getElem_toArray, List.getElem_cons_succ, List.getElem_cons_zero]; (try dsimp only at hSw); go_simp; try with_reducible rfl)
          try simp only [List.getElem_toArray, List.getElem_cons_succ, List.getElem_cons_zero, Act.put, List.setIfInBounds_toArray, List.set_cons_zero, List.set_cons_succ]
          refine' wpAnyH_take (i := 28) (oi := _) (v := _) rfl (by kernel_rfl) (by kernel_rfl) (by kernel_rfl) (fun _ _ _ h => h) (Or.inl ⟨by rfl, fun w hSw => ?hy28⟩) hHeld ?rest28
          case hy28 => (simp only [List.getElem_toArray, List.getElem_cons_succ, List.getElem_cons_zero]; (try dsimp only at hSw); go_simp; try with_reducible rfl)
          try simp only [List.getElem_toArray, List.getElem_cons_succ, List.getElem_cons_zero, Act.put, List.setIfInBounds_toArray, List.set_cons_zero, List.set_cons_succ]
          refine' wpAnyH_take (i := 29) (oi := _) (v := _) rfl (by kernel_rfl) (by kernel_rfl) (by kernel_rfl) (fun _ _ _ h => h) (Or.inl ⟨by rfl, fun w hSw => ?hy29⟩) hHeld ?rest29
          case hy29 => (simp only [List.getElem_toArray, List.getElem_cons_succ, List.getElem_cons_zero]; (try dsimp only at hSw); go_simp; try with_reducible rfl)
          try simp only [List.getElem_toArray, List.getElem_cons_succ, List.getElem_cons_zero, Act.put, List.setIfInBounds_toArray, List.set_cons_zero, List.set_cons_succ]
          refine' wpAnyH_take (i := 30) (oi := _) (v := _) rfl (by kernel_rfl) (by kernel_rfl) (by kernel_rfl) (fun _ _ _ h => h) (Or.inl ⟨by rfl, fun w hSw => ?hy30⟩) hHeld ?rest30
          case hy30 => (simp only [List.getElem_toArray, List.getElem_cons_succ, List.getElem_cons_zero]; (try dsimp only at hSw); go_simp; try with_reducible rfl)
          try simp only [List.getElem_toArray, List.getElem_cons_succ, List.getElem_cons_zero, Act.put, List.setIfInBounds_toArray, List.set_cons_zero, List.set_cons_succ]
          refine' wpAnyH_take (i := 31) (oi := _) (v := _) rfl (by kernel_rfl) (by kernel_rfl) (by kernel_rfl) (fun _ _ _ h => h) (Or.inl ⟨by rfl, fun w hSw => ?hy31⟩) hHeld ?rest31
          case hy31 => (simp only [List.getElem_toArray, List.getElem_cons_succ, List.getElem_cons_zero]; (try dsimp only at hSw); go_simp; try with_reducible rfl)
          try simp only [List.getElem_toArray, List.getElem_cons_succ, List.getElem_cons_zero, Act.put, List.setIfInBounds_toArray, List.set_cons_zero, List.set_cons_succ]
          refine' wpAnyH_take (i := 32) (oi := _) (v := _) rfl (by kernel_rfl) (by kernel_rfl) (by kernel_rfl) (fun _ _ _ h => h) (Or.inl ⟨by rfl, fun w hSw => ?hy32⟩) hHeld ?rest32
          case hy32 => (simp only [List.getElem_toArray, List.getElem_cons_succ, List.getElem_cons_zero]; (try dsimp only at hSw); go_simp; try with_reducible rfl)
          try simp only [List.getElem_toArray, List.getElem_cons_succ, List.getElem_cons_zero, Act.put, List.setIfInBounds_toArray, List.set_cons_zero, List.set_cons_succ]
          refine' wpAnyH_take (i := 33) (oi := _) (v := _) rfl (by kernel_rfl) (by kernel_rfl) (by kernel_rfl) (fun _ _ _ h => h) (Or.inl ⟨by rfl, fun w hSw => ?hy33⟩) hHeld ?rest33
          case hy33 => (simp only [List.getElem_toArray, List.getElem_cons_succ, List.getElem_cons_zero]; (try dsimp only at hSw); go_simp; try with_reducible rfl)
          try simp only [List.getElem_toArray, List.getElem_cons_succ, List.getElem_cons_zero, Act.put, List.setIfInBounds_toArray, List.set_cons_zero, List.set_cons_succ]
          refine' wpAnyH_take (i := 34) (oi := _) (v := _) rfl (by kernel_rfl) (by kernel_rfl) (by kernel_rfl) (fun _ _ _ h => h) (Or.inl ⟨by rfl, fun w hSw => ?hy34⟩) hHeld ?rest34
          case hy34 => (simp only [List.getElem_toArray, List.getElem_cons_succ, List.getElem_cons_zero]; (try dsimp only at hSw); go_simp; try with_reducible rfl)
          try simp only [List.getElem_toArray, List.getElem_cons_succ, List.getElem_cons_zero, Act.put, List.setIfInBounds_toArray, List.set_cons_zero, List.set_cons_succ]
          refine' wpAnyH_take (i := 35) (oi := _) (v := _) rfl (by kernel_rfl) (by kernel_rfl) (by kernel_rfl) (fun _ _ _ h => h) (Or.inl ⟨by rfl, fun w hSw => ?hy35⟩) hHeld ?rest35
          case hy35 => (simp only [List.getElem_toArray, List.getElem_cons_succ, List.getElem_cons_zero]; (try dsimp only at hSw); go_simp; try with_reducible rfl)
          try simp only [List.getElem_toArray, List.getElem_cons_succ, List.getElem_cons_zero, Act.put, List.setIfInBounds_toArray, List.set_cons_zero, List.set_cons_succ]
          refine' wpAnyH_take (i := 36) (oi := _) (v := _) rfl (by kernel_rfl) (by kernel_rfl) (by kernel_rfl) (fun _ _ _ h => h) (Or.inl ⟨by rfl, fun w hSw => ?hy36⟩) hHeld ?rest36
          case hy36 => (simp only [List.getElem_toArray, List.getElem_cons_succ, List.getElem_cons_zero]; (try dsimp only at hSw); go_simp; try with_reducible rfl)
          try simp only [List.getElem_toArray, List.getElem_cons_succ, List.getElem_cons_zero, Act.put, List.setIfInBounds_toArray, List.set_cons_zero, List.set_cons_succ]
          have b1 : wr.drew.cell? ⟨w.heap.size + 1 + 1, 0, none⟩ = some (.slice (some ⟨g, 0, none⟩) L.length cap') := b0
          refine wpAnyH_ready (rs := [1]) (by kernel_rfl) (by simp) ?_
          refine AllReadyH.cons (o := _) rfl (fun K hK => ?_) ?_
          rotate_left
          · exact AllReadyH.nil
          go_simp
          refine hK.out _ _ hHeld (fun _ => ?_)
          clear hK K
          try simp only [Act.put, List.setIfInBounds_toArray, List.set_cons_zero, List.set_cons_succ]
          refine wpAnyH_ready (rs := [37]) (by kernel_rfl) (by simp) ?_
          refine AllReadyH.cons (o := _) rfl (fun K hK => ?_) ?_
          rotate_left
          · exact AllReadyH.nil
          go_simp
          refine CP.out.mono ?_
          rintro e w3 ⟨g', n', c3, zs, rfl, hsz3, hmz, hlz, hoz, hgz⟩
          obtain ⟨hb3, hS3⟩ := HSd.out.put hoz hgz
          have hB3 := HSd.out.bel.grown hgz HSd.out.bel.size (fun k hk => by cases hk; exact (HSd.out.own.lt g rfl).1)
          have hc3 := cell_of_one hb3
          have hf3 := free_of_one hb3
          refine hK.out _ _ (HKp.out _ hB3) (fun hHeld => ?_)
          clear hK K
          try simp only [Act.put, List.setIfInBounds_toArray, List.set_cons_zero, List.set_cons_succ]
          refine' wpAnyH_take (i := 38) (oi := _) (v := _) rfl (by kernel_rfl) (by kernel_rfl) (by kernel_rfl) (fun _ _ _ h => h) (Or.inl ⟨by rfl, fun w hSw => ?hy38⟩) hHeld ?rest38
          case hy38 => (simp only [List.getElem_toArray, List.getElem_cons_succ, List.getElem_cons_zero]; (try dsimp only at hSw); go_simp; try with_reducible rfl)
          try simp only [List.getElem_toArray, List.getElem_cons_succ, List.getElem_cons_zero, Act.put, List.setIfInBounds_toArray, List.set_cons_zero, List.set_cons_succ]
          refine wpAnyH_ready (rs := [39]) (by kernel_rfl) (by simp) ?_
          refine AllReadyH.cons (o := _) rfl (fun K hK => ?_) ?_
          rotate_left
          · exact AllReadyH.nil
          go_simp
          refine hK.out _ _ (HKp.out _ hS3.bel) (fun _ => ?_)
          clear hK K
          try simp only [Act.put, List.setIfInBounds_toArray, List.set_cons_zero, List.set_cons_succ]
          refine wpAnyH_done (by kernel_rfl) ?_ _
          go_wp2_with fail
          all_goals (
            have hn' := own_len hoz
            subst hn'
            refine ⟨⟨k + 1, g', c3, zs, by omega, by go_num, hS3, HSn.out zs hsz3 hlz hmz⟩, by simp [intOf]; omega⟩)
        · obtain rfl : k = m := by omega
          have e1 : i * k + k = (i + 1) * k := by rw [Nat.add_mul, Nat.one_mul]
          rw [e1] at HP
          clear e1
          go_wp2
          go_roundw
          case rel => exact ⟨i + 1, g, cap', L, by omega, by go_num, HS.out, HP.out⟩
          case measure => simp [intOf]; omega
    · obtain rfl : i = n := by omega
      have HM := Lib.hid (fun q => (by have := HP.out.2.2 q; rwa [HAllT.out.1] at this : q ∈ L ↔ q ∈ S))
      have hLl : L.length ≤ S.length := by rw [HAllT.out.2]; exact HP.out.2.1
      have c0 := HS.out.cell
      have c1 := HS.out.cellR
      have f1 := HS.out.frR
      have lb := HS.out.ltB
      have hs := HS.out.bel.size
      have HO := Lib.hid (HS.out.own_out (.slice (some ⟨g, 0, none⟩) L.length cap'))
      have HR := Lib.hid (one_setCell (u := .slice (some ⟨g, 0, none⟩) L.length cap') HS.out.r)
      have HB := Lib.hid (HS.out.bel.setCell (p := ⟨w.heap.size, 0, none⟩) (Nat.le_refl _) (.slice (some ⟨g, 0, none⟩) L.length cap'))
      clear HS
      go_wp2
      exact bodyPost_ret (results_cell1 (p := 4) (ty := 28) Try.results21 _ _ w.heap.size 28 #[.slice (some ⟨g, 0, none⟩) L.length cap'] (0, 0) _ rfl HR.out Try.underlying28 rfl infoEl) rfl ⟨g, cap', L, rfl, HP.out.1, HM.out, hLl, HO.out, HB.out⟩
end Go.Proofs.Ytaopdhncapoefaa

/- Contracts of single functions, and plain lemmas, on which the exact laws of this seat rest; each holds under the conditions that it states. -/
namespace Go.Proofs.Ytaopdhncapoefaa
set_option linter.unusedVariables false
set_option linter.unusedSimpArgs false
open Go.RowKit

set_option maxHeartbeats 4000000 in
set_option maxRecDepth 100000 in
theorem spec_Sum (u v : Value) (xs ys : List (Int × Int)) (w : World) (hN : xs.length ≤ 1048576) (hM : ys.length ≤ 1048576) (hu : SlS w u xs) (hv : SlS w v ys) :
    Calls Try.prog 7 #[.agg #[u], .agg #[v]] w (SaysElB (suV xs ys) (suOk xs ys) w) := by
  obtain ⟨W3, hW3⟩ : ∃ W3, (((w.alloc (.cells #[u] 28)).alloc (.cells #[v] 28)).alloc (.cells #[.slice none 0 0] 28)) = W3 := ⟨_, rfl⟩
  have hb0 : Below w.heap.size w W3 := by rw [← hW3]; exact Joins.below_alloc3 _ _ _ _
  have hs0 : W3.heap.size = w.heap.size + 1 + 1 + 1 := by rw [← hW3]; simp
  have hA : W3.heap[w.heap.size]? = some (.cells #[u] 28 (0, 0)) := by
    rw [← hW3, Below.heap_alloc _ _ _ (by simp; omega), Below.heap_alloc _ _ _ (by simp)]; exact heap_alloc_last w _
  have hBx : W3.heap[w.heap.size + 1]? = some (.cells #[v] 28 (0, 0)) := by
    rw [← hW3, Below.heap_alloc _ _ _ (by simp)]
    have := heap_alloc_last (w.alloc (.cells #[u] 28)) (.cells #[v] 28)
    rwa [World.size_alloc] at this
  have hR : W3.heap[w.heap.size + 1 + 1]? = some (.cells #[.slice none 0 0] 28 (0, 0)) := by
    rw [← hW3]
    have := heap_alloc_last ((w.alloc (.cells #[u] 28)).alloc (.cells #[v] 28)) (.cells #[.slice none 0 0] 28)
    simpa only [World.size_alloc] using this
  have HB0 := Lib.hid hb0
  have HV0 : Hid (∀ W, Below W3.heap.size W3 W → W.heap[w.heap.size]? = some (.cells #[u] 28 (0, 0)) ∧ W.heap[w.heap.size + 1]? = some (.cells #[v] 28 (0, 0)) ∧ W.heap[w.heap.size + 1 + 1]? = some (.cells #[.slice none 0 0] 28 (0, 0)) ∧ w.heap.size + 1 + 1 < W.heap.size) := fun W hb =>
    ⟨(hb.block _ (by omega)).trans hA, (hb.block _ (by omega)).trans hBx, (hb.block _ (by omega)).trans hR, by have := hb.size; omega⟩
  have CI1 := Lib.hid (fun W (hb : Below w.heap.size w W) (he : W.heap[w.heap.size]? = some (.cells #[u] 28 (0, 0))) => l03Is_any w.heap.size u xs W he hN (hu.below hb))
  have CI2 := Lib.hid (fun W (hb : Below w.heap.size w W) (he : W.heap[w.heap.size + 1]? = some (.cells #[v] 28 (0, 0))) => l03Is_any (w.heap.size + 1) v ys W he hM (hv.below hb))
  have CSu := Lib.hid (fun W (hb : Below w.heap.size w W) (he : W.heap[w.heap.size]? = some (.cells #[u] 28 (0, 0))) (he2 : W.heap[w.heap.size + 1]? = some (.cells #[v] 28 (0, 0))) (h1 : elB xs = true) (h2 : elB ys = true) => l03Sum_any w.heap.size (w.heap.size + 1) u v xs ys W he he2 (elB_small h1) (elB_small h2) (elB_rng h1) (elB_rng h2) (hu.below hb) (hv.below hb))
  have HOk : Hid (suOk xs ys = (elB xs && (elB ys && condS (sumL xs ys)))) := rfl
  have HVal : Hid (suV xs ys = if suOk xs ys = true then elL (memB (sumL xs ys)) else []) := rfl
  have HW := Lib.hid hW3
  have HLen : Hid (elB xs = true → elB ys = true → (sumL xs ys).length ≤ 2500) := fun h1 h2 => by rw [sumL_len]; exact Nat.mul_le_mul (elB_small h1) (elB_small h2)
  obtain ⟨S, hS⟩ : ∃ L, sumL xs ys = L := ⟨_, rfl⟩
  rw [hS] at CSu HOk HVal HLen
  have l0 : w.heap.size + 1 + 1 < W3.heap.size := by omega
  clear hb0 hA hBx hR hu hv hW3 hS
  go_enter Try.func7, Try.ntmps7
  go_wp2_with fail
  rw [HW.out]
  refine (CI1.out _ HB0.out (HV0.out _ (Below.refl _ _)).1).mono ?_
  rintro e w1 ⟨rfl, hb1⟩
  have V1 := Lib.hid hb1
  have B1 := Lib.hid (HB0.out.trans (hb1.mono (by omega)))
  obtain ⟨p1, q1, r1, l1⟩ := HV0.out w1 V1.out
  have R1 := Lib.hid r1
  have fr1 : w1.frozen? ⟨w.heap.size + 1 + 1, 0, none⟩ = false := free_of_one r1
  have cr1 : w1.cell? ⟨w.heap.size + 1 + 1, 0, none⟩ = some (.slice none 0 0) := cell_of_one r1
  have P1 := Lib.hid p1
  have Q1 := Lib.hid q1
  clear hb1 r1 p1 q1
  cases h1 : elB xs with
  | false =>
    rw [h1] at HOk
    have HO : Hid (suOk xs ys = false) := HOk.out
    have HVv : Hid (suV xs ys = []) := by show _ = _; rw [HVal.out, HO.out]; rfl
    go_wp2_with fail
    refine bodyPost_ret (v := .tuple #[.agg #[.slice none 0 0], .bool false]) (by simp [results, Try.results7, go_sem, cell_of_one (one_setCell (u := .slice none 0 0) R1.out), cell_of_one R1.out]) rfl ⟨none, 0, 0, by rw [HO.out], by rw [HVv.out]; exact World.ownsRow_nil _ _ _ _, by first | exact B1.out | exact B1.out.setCell (p := ⟨w.heap.size + 1 + 1, 0, none⟩) (by simp; omega) _⟩
  | true =>
    rw [h1] at HOk
    go_wp2_with fail
    refine (CI2.out _ B1.out Q1.out).mono ?_
    rintro e w2 ⟨rfl, hb2⟩
    have V2 := Lib.hid (V1.out.trans (hb2.mono V1.out.size))
    have B2 := Lib.hid (B1.out.trans (hb2.mono B1.out.size))
    clear hb2 l1 fr1 cr1 P1 Q1
    obtain ⟨p2, q2, r2, l2⟩ := HV0.out w2 V2.out
    have R2 := Lib.hid r2
    have fr2 : w2.frozen? ⟨w.heap.size + 1 + 1, 0, none⟩ = false := free_of_one r2
    have cr2 : w2.cell? ⟨w.heap.size + 1 + 1, 0, none⟩ = some (.slice none 0 0) := cell_of_one r2
    have P2 := Lib.hid p2
    have Q2 := Lib.hid q2
    clear r2 p2 q2
    cases h2 : elB ys with
    | false =>
      rw [h2] at HOk
      have HO : Hid (suOk xs ys = false) := HOk.out
      have HVv : Hid (suV xs ys = []) := by show _ = _; rw [HVal.out, HO.out]; rfl
      go_wp2_with fail
      refine bodyPost_ret (v := .tuple #[.agg #[.slice none 0 0], .bool false]) (by simp [results, Try.results7, go_sem, cell_of_one (one_setCell (u := .slice none 0 0) R2.out), cell_of_one R2.out]) rfl ⟨none, 0, 0, by rw [HO.out], by rw [HVv.out]; exact World.ownsRow_nil _ _ _ _, by first | exact B2.out | exact B2.out.setCell (p := ⟨w.heap.size + 1 + 1, 0, none⟩) (by simp; omega) _⟩
    | true =>
      rw [h2] at HOk
      have hS25 := HLen.out h1 h2
      go_wp2_with fail
      refine (CSu.out _ B2.out P2.out Q2.out h1 h2).mono ?_
      rintro e w3 ⟨g3, cap3, L, rfl, hs3, hm3, hl3, ho3, hb3⟩
      have HL := Lib.hid (set_valid hs3 hm3)
      have hsz2 := B2.out.size
      have ho3' := Joins.ownsRow_le ho3 hsz2
      have B3 := Lib.hid ((B2.out.trans (hb3.mono B2.out.size)).alloc (Nat.le_trans B2.out.size hb3.size) (.cells #[.slice (some ⟨g3, 0, none⟩) L.length cap3] 28))
      have R3 := Lib.hid ((Below.heap_alloc w3 (.cells #[.slice (some ⟨g3, 0, none⟩) L.length cap3] 28) (w.heap.size + 1 + 1) (by have := hb3.size; omega)).trans ((hb3.block _ l2).trans R2.out))
      have O3 := Lib.hid (World.ownsRow.alloc ho3' (.cells #[.slice (some ⟨g3, 0, none⟩) L.length cap3] 28))
      have E3 := Lib.hid (heap_alloc_last w3 (.cells #[.slice (some ⟨g3, 0, none⟩) L.length cap3] 28))
      have l3 : w.heap.size + 1 + 1 < w3.heap.size := Nat.lt_of_lt_of_le l2 hb3.size
      have CI3 := Lib.hid (l03Is_any w3.heap.size (.slice (some ⟨g3, 0, none⟩) L.length cap3) L _ E3.out (by omega) (OwnS.sl O3.out))
      clear hb3 ho3 ho3' hs3 hm3
      go_wp2_with fail
      refine CI3.out.mono ?_
      rintro e w4 ⟨rfl, hb4⟩
      have B4 := Lib.hid (B3.out.trans (hb4.mono B3.out.size))
      have r4 := (hb4.block (w.heap.size + 1 + 1) (by simp; omega)).trans R3.out
      have R4 := Lib.hid r4
      have E4 := Lib.hid ((hb4.block w3.heap.size (by simp)).trans E3.out)
      have O4 := Lib.hid (own_below O3.out hb4)
      have fr4 : w4.frozen? ⟨w.heap.size + 1 + 1, 0, none⟩ = false := free_of_one r4
      have cr4 : w4.cell? ⟨w.heap.size + 1 + 1, 0, none⟩ = some (.slice none 0 0) := cell_of_one r4
      have ce4 := cell_of_one E4.out
      have l4 : w3.heap.size < w4.heap.size := by have := hb4.size; simp at this; omega
      clear hb4 r4
      by_cases hc : (elL (memB S)).length = dC S S.length ∧ 1 ≤ dC S S.length ∧ dC S S.length ≤ 50
      · have h5 := HL.out.1 hc
        have HO : Hid (suOk xs ys = true) := by show _ = _; rw [HOk.out]; unfold condS; rw [decide_eq_true hc]; rfl
        have HVv : Hid (suV xs ys = L) := by show _ = _; rw [HVal.out, HO.out, if_pos rfl]; exact h5.2
        have h5' := h5.1
        clear h5 hc
        have OR := Lib.hid (own_set (u := .slice (some ⟨g3, 0, none⟩) L.length cap3) O4.out R4.out (by decide))
        have PR := Lib.hid (one_setCell (u := .slice (some ⟨g3, 0, none⟩) L.length cap3) R4.out)
        have BR := Lib.hid (B4.out.setCell (p := ⟨w.heap.size + 1 + 1, 0, none⟩) (by simp; omega) (.slice (some ⟨g3, 0, none⟩) L.length cap3))
        rw [h5']
        go_wp2_with fail
        refine bodyPost_ret (v := .tuple #[.agg #[.slice (some ⟨g3, 0, none⟩) L.length cap3], .bool true]) (by simp [results, Try.results7, go_sem, cell_of_one PR.out]) rfl ⟨_, _, _, by rw [HO.out], by rw [HVv.out]; exact OR.out, BR.out⟩
      · have h5' := HL.out.2 hc
        have HO : Hid (suOk xs ys = false) := by show _ = _; rw [HOk.out]; unfold condS; rw [decide_eq_false hc]; rfl
        have HVv : Hid (suV xs ys = []) := by show _ = _; rw [HVal.out, HO.out]; rfl
        clear hc
        rw [h5']
        go_wp2_with fail
        refine bodyPost_ret (v := .tuple #[.agg #[.slice none 0 0], .bool false]) (by simp [results, Try.results7, go_sem, cell_of_one (one_setCell (u := .slice none 0 0) R4.out), cell_of_one R4.out]) rfl ⟨none, 0, 0, by rw [HO.out], by rw [HVv.out]; exact World.ownsRow_nil _ _ _ _, by first | exact B4.out | exact B4.out.setCell (p := ⟨w.heap.size + 1 + 1, 0, none⟩) (by simp; omega) _⟩
end Go.Proofs.Ytaopdhncapoefaa
