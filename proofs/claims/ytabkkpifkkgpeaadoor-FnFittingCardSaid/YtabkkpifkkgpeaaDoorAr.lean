/- Contracts of single functions, and plain lemmas, on which the exact laws of this seat rest; each holds under the conditions that it states. -/
import Derived.Test.YtabkkpifkkgpeaaDoorAh
import Derived.Deep.RegionLaw
import Derived.OwnWalk
import Derived.Test.YtabkkpifkkgpeaaDoorIs
import Derived.Maps.AppendAt
import Derived.Deep.QuietTactic
import Derived.BigQuiet
import Derived.Deep.RegionHeld3
namespace Go.Proofs.YtabkkpifkkgpeaaDoor
set_option linter.unusedVariables false
set_option linter.unusedSimpArgs false
open Go.RowKit

/-! ### a spot put into a list in order -/
/-- what is put at place t -/
def putAt (xs : List (Int × Int)) (p : Int × Int) (t : Nat) : List (Int × Int) := xs.take t ++ [p] ++ xs.drop t
theorem putAt_len (xs : List (Int × Int)) (p : Int × Int) (t : Nat) : (putAt xs p t).length = xs.length + 1 := by
  unfold putAt
  simp
  omega
theorem putAt_mem (xs : List (Int × Int)) (p q : Int × Int) (t : Nat) : q ∈ putAt xs p t ↔ (q = p ∨ q ∈ xs) := by
  unfold putAt
  have h := List.take_append_drop t xs
  rw [List.mem_append, List.mem_append, List.mem_singleton]
  conv => rhs; rw [← h, List.mem_append]
  constructor
  · rintro ((h | h) | h)
    · exact Or.inr (Or.inl h)
    · exact Or.inl h
    · exact Or.inr (Or.inr h)
  · rintro (h | h | h)
    · exact Or.inl (Or.inr h)
    · exact Or.inl (Or.inl h)
    · exact Or.inr h
theorem bef_tri (a b : Int × Int) (h : ¬ befB a b = true) : a = b ∨ befB b a = true := by
  rw [bef_iff] at *
  obtain ⟨a1, a2⟩ := a
  obtain ⟨b1, b2⟩ := b
  simp only at *
  by_cases e : a1 = b1 ∧ a2 = b2
  · left; rw [e.1, e.2]
  · right; omega
theorem putAt_srt {xs : List (Int × Int)} {p : Int × Int} {t : Nat} (hs : Srt xs) (h1 : ∀ j, j < t → befB (xs.getD j (0, 0)) p = true) (ht : t ≤ xs.length) (h2 : t < xs.length → befB p (xs.getD t (0, 0)) = true) : Srt (putAt xs p t) := by
  have hsp : Srt (xs.take t ++ xs.drop t) := by rw [List.take_append_drop]; exact hs
  unfold Srt at hsp
  rw [List.pairwise_append] at hsp
  have A : ∀ a ∈ xs.take t, befB a p = true := fun a ha => by
    obtain ⟨j, hj, e⟩ := List.mem_take_iff_getElem.1 ha
    have := h1 j (by omega)
    rwa [getD_of_lt (by omega), e] at this
  have B : ∀ b ∈ xs.drop t, befB p b = true := fun b hb => by
    obtain ⟨j, hj, e⟩ := List.mem_drop_iff_getElem.1 hb
    have h3 := h2 (by omega)
    rw [getD_of_lt (by omega)] at h3
    by_cases hj0 : j = 0
    · subst hj0
      simp only [Nat.add_zero] at e
      rw [← e]; exact h3
    · unfold Srt at hs
      rw [List.pairwise_iff_getElem] at hs
      have := hs t (t + j) (by omega) (by omega) (by omega)
      rw [e] at this
      exact bef_trans h3 this
  unfold putAt Srt
  rw [List.pairwise_append, List.pairwise_append]
  refine ⟨⟨hsp.1, List.pairwise_singleton _ _, fun a ha b hb => ?_⟩, hsp.2.1, fun a ha b hb => ?_⟩
  · rw [List.mem_singleton] at hb; subst hb; exact A a ha
  · rcases List.mem_append.1 ha with h | h
    · exact bef_trans (A a h) (B b hb)
    · rw [List.mem_singleton] at h; subst h; exact B b hb

/-- the first t of a row of the call's own are a row of its own -/
theorem own_take {w : World} {base g n cap s : Nat} {e : TypeId} {xs : List Value} (h : w.ownsRow base e s (.slice (some ⟨g, 0, none⟩) n cap) n xs) (t : Nat) (ht : t ≤ n) : w.ownsRow base e s (.slice (some ⟨g, 0, none⟩) t cap) t (xs.take (t * s)) := by
  obtain ⟨h1, h2⟩ := h
  have hts : t * s ≤ n * s := Nat.mul_le_mul ht (Nat.le_refl _)
  refine ⟨by rw [List.length_take, h1]; omega, ?_⟩
  rcases h2 with ⟨hv, _⟩ | ⟨g', cap', cur, hv, hb, hg, hc, hm, hsz, htk⟩
  · cases hv
  · cases hv
    exact Or.inr ⟨g, cap, cur, rfl, hb, hg, by omega, hm, hsz, by rw [← htk, List.take_take, Nat.min_eq_left hts]⟩
theorem flat2_take (xs : List (Int × Int)) (t : Nat) (ht : t ≤ xs.length) : (flat2 xs).take (t * 2) = flat2 (xs.take t) := by
  apply List.ext_getElem?
  intro j
  by_cases hj : j < t * 2
  · rw [List.getElem?_take_of_lt hj, flat2_at _ _ (by omega), flat2_at _ _ (by rw [List.length_take]; omega)]
    unfold spotC
    have : ∀ i, i < t → (xs.take t).getD i (0, 0) = xs.getD i (0, 0) := fun i hi => by
      rw [List.getD_eq_getElem?_getD, List.getD_eq_getElem?_getD, List.getElem?_take_of_lt hi]
    rw [this _ (by omega)]
  · rw [List.getElem?_eq_none (by rw [List.length_take]; omega), List.getElem?_eq_none (by rw [flat2_len, List.length_take]; omega)]
theorem flat2_drop_at (xs : List (Int × Int)) (t j : Nat) (hj : j < (xs.length - t) * 2) : ((flat2 xs).drop (t * 2))[j]? = some (.int .i64 (spotC xs (t * 2 + j))) := by
  rw [List.getElem?_drop, flat2_at _ _ (by omega)]
theorem flat2_append (xs : List (Int × Int)) : ∀ (n : Nat) (ys : List (Int × Int)), ys.length = n → flat2 (xs ++ ys) = flat2 xs ++ flat2 ys
  | 0, ys, h => by
    have := List.length_eq_zero_iff.1 h
    subst this
    simp [flat2]
  | n + 1, ys, h => by
    rcases List.eq_nil_or_concat ys with rfl | ⟨zs, z, rfl⟩
    · simp at h
    · obtain ⟨a, b⟩ := z
      have ih := flat2_append xs n zs (by simp at h; omega)
      simp only [List.concat_eq_append]
      rw [← List.append_assoc, flat2_snoc, ih, flat2_snoc, List.append_assoc]
theorem flat2_drop (xs : List (Int × Int)) (t : Nat) (ht : t ≤ xs.length) : (flat2 xs).drop (t * 2) = flat2 (xs.drop t) := by
  have h : flat2 (xs.take t ++ xs.drop t) = flat2 (xs.take t) ++ flat2 (xs.drop t) := flat2_append _ _ _ rfl
  rw [List.take_append_drop] at h
  rw [h, List.drop_append_of_le_length (by rw [flat2_len, List.length_take]; omega), List.drop_of_length_le (by rw [flat2_len, List.length_take]; omega), List.nil_append]
end Go.Proofs.YtabkkpifkkgpeaaDoor

/- Contracts of single functions, and plain lemmas, on which the exact laws of this seat rest; each holds under the conditions that it states. -/
namespace Go.Proofs.YtabkkpifkkgpeaaDoor
set_option linter.unusedVariables false
set_option linter.unusedSimpArgs false
open Go.RowKit

/-- append to a row of the call's own, as one step of a region that draws its order -/
theorem step_append_own {P : Program} {ops : Array Oper} {o : Oper} {a : Act} {w : World} {K : Act → World → Prop} {Q : Exit → Act → World → Prop} {E : Prop}
    (hg : o.guard = none) (s x : Operand) (t : TypeId) (ho : o.op = .call { callee := .builtin .append, args := #[s, x], argTypes := #[t, t] })
    (base : Nat) (e : TypeId) (i : TypeInfo) (z : Value) (size bytes : Nat) (ht : P.underlying t = some (.slice e)) (hi : P.info? e = some i) (hz : i.zero = some z)
    (hsize : i.size = size) (hby : i.bytes = bytes) (hzs : z.cells.size = size) (hsz : 0 < size)
    (v : Value) (n : Nat) (xs : List Value) (hs : a.eval s = v) (hown : w.ownsRow base e size v n xs)
    (ad : Addr) (m c : Nat) (news : List Value) (hx : a.eval x = .slice (some ad) m c) (hl : news.length = m * size) (hnews : ∀ j u, news[j]? = some u → w.cell? (ad.add j) = some u) (h1 : ∀ u ∈ news, u.oneCell' = true)
    (h63 : n + m ≤ maxLen) (hbytes : (n + m) * bytes ≤ 140737488355328) (hbase : base ≤ w.heap.size)
    (h : ∀ v' w', w'.ownsRow base e size v' (n + m) (xs ++ news) → w.grownBy w' v.ownBlock → K (a.put o.dst v') w') :
    if Region.wanted o (yielded ops a.tmps) = true then Oper.wp P o a w K Q else E := by
  have hw : Region.wanted o (yielded ops a.tmps) = true := by simp [Region.wanted, hg]
  rw [if_pos hw]
  exact wp_append_own w s x t ho base e i z size bytes ht hi hz hsize hby hzs hsz v n xs hs hown ad m c news hx hl hnews h1 h63 hbytes hbase fun v' w' h2 h3 _ => h v' w' h2 h3
/-- the same, which tells the block too -/
theorem step_append_at {P : Program} {ops : Array Oper} {o : Oper} {a : Act} {w : World} {K : Act → World → Prop} {Q : Exit → Act → World → Prop} {E : Prop}
    (hg : o.guard = none) (s x : Operand) (t : TypeId) (ho : o.op = .call { callee := .builtin .append, args := #[s, x], argTypes := #[t, t] })
    (base : Nat) (e : TypeId) (i : TypeInfo) (z : Value) (size bytes : Nat) (ht : P.underlying t = some (.slice e)) (hi : P.info? e = some i) (hz : i.zero = some z)
    (hsize : i.size = size) (hby : i.bytes = bytes) (hzs : z.cells.size = size) (hsz : 0 < size)
    (v : Value) (n : Nat) (xs : List Value) (hs : a.eval s = v) (hown : w.ownsRow base e size v n xs)
    (ad : Addr) (m c : Nat) (news : List Value) (hx : a.eval x = .slice (some ad) m c) (hl : news.length = m * size) (hnews : ∀ j u, news[j]? = some u → w.cell? (ad.add j) = some u) (h1 : ∀ u ∈ news, u.oneCell' = true)
    (h63 : n + m ≤ maxLen) (hbytes : (n + m) * bytes ≤ 140737488355328) (hbase : base ≤ w.heap.size)
    (h : ∀ v' w', w'.ownsRow base e size v' (n + m) (xs ++ news) → w.grownBy w' v.ownBlock → (v'.ownBlock = v.ownBlock ∨ v'.ownBlock = some w.heap.size) → K (a.put o.dst v') w') :
    if Region.wanted o (yielded ops a.tmps) = true then Oper.wp P o a w K Q else E := by
  have hw : Region.wanted o (yielded ops a.tmps) = true := by simp [Region.wanted, hg]
  rw [if_pos hw]
  obtain ⟨v', w', hr, h2, h3, h4, h5⟩ := run_append_own_at (P := P) w base t o.type e i z size bytes ht hi hz hsize hby hzs hsz v n xs hown ad m c news hl hnews h1 h63 hbytes hbase
  unfold Oper.wp execOp
  simp only [ho, resolve, invoke, builtin, Sem.run_bind, Sem.run_pure, Result.andThen_ok, List.map_toArray, List.map_cons, List.map_nil, hs, hx, hr]
  exact h v' w' h2 h3 h5
end Go.Proofs.YtabkkpifkkgpeaaDoor

/- Contracts of single functions, and plain lemmas, on which the exact laws of this seat rest; each holds under the conditions that it states. -/
namespace Go.Proofs.YtabkkpifkkgpeaaDoor
set_option linter.unusedVariables false
set_option linter.unusedSimpArgs false
open Go.RowKit

theorem grown_of_below {w w' : World} {row : Option Nat} (h : Below w.heap.size w w') : w.grownBy w' row := ⟨h.os, h.tape, h.output, h.size, fun k hk _ => h.block k hk⟩
theorem grown_then {w w1 w2 : World} {g : Nat} {row : Option Nat} (h : w.grownBy w1 (some g)) (k : w1.grownBy w2 row) (hr : ∀ j, row = some j → j = g ∨ w.heap.size ≤ j) : w.grownBy w2 (some g) :=
  ⟨k.os.trans h.os, k.tape.trans h.tape, k.output.trans h.output, Nat.le_trans h.size k.size, fun j hj hne => by
    have h1 := h.block j hj hne
    refine (k.block j (Nat.lt_of_lt_of_le hj h.size) (fun e => ?_)).trans h1
    rcases hr j e.symm with e' | e'
    · exact hne (by rw [e'])
    · omega⟩

theorem putAt_flat (xs : List (Int × Int)) (p : Int × Int) (t : Nat) (ht : t ≤ xs.length) : flat2 (putAt xs p t) = (flat2 xs).take (t * 2) ++ [.int .i64 p.1, .int .i64 p.2] ++ (flat2 xs).drop (t * 2) := by
  obtain ⟨a, b⟩ := p
  unfold putAt
  rw [flat2_append _ _ _ rfl, flat2_snoc, flat2_take xs t ht, flat2_drop xs t ht]
theorem flat2_take_all (xs : List (Int × Int)) (t : Nat) (h : xs.length = t) : (flat2 xs).take (t * 2) = flat2 xs := List.take_of_length_le (by rw [flat2_len, h]; exact Nat.le_refl _)
theorem flat2_drop_all (xs : List (Int × Int)) (t : Nat) (h : xs.length = t) : (flat2 xs).drop (t * 2) = [] := List.drop_of_length_le (by rw [flat2_len, h]; exact Nat.le_refl _)
theorem two_cells_new1 (w : World) (o : Obj) (a b : Value) (t : TypeId) : ∀ j u, [a, b][j]? = some u → ((w.alloc o).alloc (.cells #[a, b] t)).drew.cell? ((⟨w.heap.size + 1, 0, none⟩ : Addr).add j) = some u := fun j u h => by
  have := two_cells_new (w.alloc o) a b t j u h
  rw [World.size_alloc] at this
  exact this
/-- what l03Put says -/
def SaysPut (w : World) (base g : Nat) (xs : List (Int × Int)) (p : Int × Int) (e : Ending) (w' : World) : Prop :=
  ∃ g' n' cap' ys, e = .returned (.slice (some ⟨g', 0, none⟩) n' cap') ∧ Srt ys ∧ (∀ q, q ∈ ys ↔ (q = p ∨ q ∈ xs)) ∧ ys.length ≤ xs.length + 1 ∧ OwnS w' base (.slice (some ⟨g', 0, none⟩) n' cap') ys ∧ w.grownBy w' (some g)

set_option maxHeartbeats 4000000 in
set_option maxRecDepth 100000 in
theorem l03Put_any (base g cap : Nat) (xs : List (Int × Int)) (a b : Int) (w : World) (hs : Srt xs) (hl : xs.length ≤ 3000) (hv : OwnS w base (.slice (some ⟨g, 0, none⟩) xs.length cap) xs) :
    Calls Tryd.prog 78 #[.slice (some ⟨g, 0, none⟩) xs.length cap, .agg #[.int .i64 a, .int .i64 b]] w (SaysPut w base g xs (a, b)) := by
  obtain ⟨i0, hi, hz0, hz1, hz2⟩ := info_parts infoSp
  have hgl := (hv.lt g rfl).2
  have hgb := (hv.lt g rfl).1
  have hcap : xs.length ≤ cap := by
    rcases hv.2 with ⟨h, _⟩ | ⟨g', c', cur, h, _, _, h3, _⟩
    · cases h
    · cases h; exact h3
  have HO0 := Lib.hid hv
  have HB0 := Lib.hid (Joins.below_alloc1 w (.cells #[.int .i64 a, .int .i64 b] 29))
  have HK0 := Lib.hid (heap_alloc_last w (.cells #[.int .i64 a, .int .i64 b] 29))
  have HSrt := Lib.hid hs
  obtain ⟨n, hn⟩ : ∃ n, xs.length = n := ⟨_, rfl⟩
  have Hn := Lib.hid hn
  rw [hn] at hl hcap HO0
  unfold SaysPut
  rw [hn]
  clear hv hs hn
  go_enter Tryd.func78, Tryd.ntmps78
  go_wp2
  go_loopw [5] (fun iv wr => ∃ t : Nat, t ≤ n ∧ iv = .int .i64 t ∧ Hid (∀ j, j < t → befB (xs.getD j (0, 0)) (a, b) = true) ∧ Hid (Below (w.heap.size + 1) (w.alloc (.cells #[.int .i64 a, .int .i64 b] 29)) wr)) (fun iv _ => n - (intOf iv).toNat)
  case atStart => exact ⟨0, Nat.zero_le _, rfl, fun j h => absurd h (Nat.not_lt_zero j), Below.refl _ _⟩
  case round =>
    obtain ⟨t, ht, rfl, HJ, HB⟩ := hrel
    have hs1 : w.heap.size + 1 ≤ wr.heap.size := by have := HB.out.size; simp at this; exact this
    have HBw : Hid (Below w.heap.size w wr) := HB0.out.trans (HB.out.mono (by omega))
    have HK : Hid (wr.heap[w.heap.size]? = some (.cells #[.int .i64 a, .int .i64 b] 29 (0, 0))) := (HB.out.block _ (by omega)).trans HK0.out
    have HO : Hid (OwnS wr base (.slice (some ⟨g, 0, none⟩) n cap) xs) := own_below HO0.out HBw.out
    have k0 : wr.cell? ⟨w.heap.size, 0, none⟩ = some (.int .i64 a) := by rw [Joins.cell_of_block HK.out 0]; rfl
    have k1 : wr.cell? ⟨w.heap.size, 1, none⟩ = some (.int .i64 b) := by rw [Joins.cell_of_block HK.out 1]; rfl
    have lk : w.heap.size < wr.heap.size := by omega
    have lg : g < wr.heap.size := by omega
    by_cases hlt : t < n
    · have klt : (t : Int) < (n : Int) := by omega
      have klt2 : t < n := hlt
      have kd : decide (t < n) = true := decide_eq_true hlt
      have hsp := (OwnS.spots HO.out).2 t (by rw [Hn.out]; exact hlt)
      have c0 := hsp.1
      have c1 := hsp.2
      have HJs : Hid (befB (xs.getD t (0, 0)) (a, b) = true → ∀ j, j < t + 1 → befB (xs.getD j (0, 0)) (a, b) = true) := fun h j hj => by
        by_cases e : j = t
        · rw [e]; exact h
        · exact HJ.out j (by omega)
      have hmem : Hid (xs.getD t (0, 0) ∈ xs) := by
        show _ ∈ _
        rw [getD_of_lt (by rw [Hn.out]; exact hlt)]; exact List.getElem_mem _
      obtain ⟨P, hP⟩ : ∃ P, xs.getD t (0, 0) = P := ⟨_, rfl⟩
      have HP := Lib.hid hP
      rw [hP] at c0 c1 HJs hmem
      clear hP hsp
      obtain ⟨x, y⟩ := P
      simp only at c0 c1
      have CB := Lib.hid (fun W => l03Before_any x y a b W)
      have HX : Hid (∀ W, Below wr.heap.size wr W → W.cell? ⟨g, t * 2, none⟩ = some (.int .i64 x) ∧ W.cell? ⟨g, t * 2 + 1, none⟩ = some (.int .i64 y) ∧ W.cell? ⟨w.heap.size, 0, none⟩ = some (.int .i64 a) ∧ W.cell? ⟨w.heap.size, 1, none⟩ = some (.int .i64 b)) := fun W hb => ⟨cell_kept hb c0, cell_kept hb c1, cell_kept hb k0, cell_kept hb k1⟩
      cases hbf : befB (x, y) (a, b) with
      | true =>
        rw [hbf] at CB HJs
        have HN := Lib.hid (HJs.out rfl)
        clear hbf HJs
        go_wp2_with fail
        go_region_held3 (fun w' => w'.cell? ⟨g, t * 2, none⟩ = some (.int .i64 x) ∧ w'.cell? ⟨g, t * 2 + 1, none⟩ = some (.int .i64 y) ∧ w'.cell? ⟨w.heap.size, 0, none⟩ = some (.int .i64 a) ∧ w'.cell? ⟨w.heap.size, 1, none⟩ = some (.int .i64 b))
          (first | exact HX.out _ (Below.refl _ _) | exact HX.out _ (Below.refl _ _).drew | exact HX.out _ ((Below.refl _ _).drew.trans hb7))
          (first | (go_at_call 134; refine (CB.out _).mono ?_; rintro e w7 ⟨rfl, hb7⟩))
        have hb7' := (Below.refl wr.heap.size wr).drew.trans hb7
        have B7 : Hid (Below (w.heap.size + 1) (w.alloc (.cells #[.int .i64 a, .int .i64 b] 29)) w7) := HB.out.trans (hb7'.mono hs1)
        clear hb7 hb7' HX CB
        go_wp2
        go_roundw
        case rel => exact ⟨t + 1, by omega, by go_num, HN.out, B7.out⟩
        case measure => simp [intOf]; omega
      | false =>
        rw [hbf] at CB
        have hnb : ¬ befB (x, y) (a, b) = true := by rw [hbf]; simp
        have HTri := Lib.hid (bef_tri _ _ hnb)
        clear hbf HJs hnb
        go_wp2_with fail
        go_region_held3 (fun w' => w'.cell? ⟨g, t * 2, none⟩ = some (.int .i64 x) ∧ w'.cell? ⟨g, t * 2 + 1, none⟩ = some (.int .i64 y) ∧ w'.cell? ⟨w.heap.size, 0, none⟩ = some (.int .i64 a) ∧ w'.cell? ⟨w.heap.size, 1, none⟩ = some (.int .i64 b))
          (first | exact HX.out _ (Below.refl _ _) | exact HX.out _ (Below.refl _ _).drew | exact HX.out _ ((Below.refl _ _).drew.trans hb7))
          (first | (go_at_call 134; refine (CB.out _).mono ?_; rintro e w7 ⟨rfl, hb7⟩))
        have hb7' := (Below.refl wr.heap.size wr).drew.trans hb7
        have hx7 := HX.out _ hb7'
        have c0 := hx7.1
        have c1 := hx7.2.1
        have k0 := hx7.2.2.1
        have k1 := hx7.2.2.2
        have HBw7 : Hid (Below w.heap.size w w7) := HBw.out.trans (hb7'.mono (by omega))
        have HO7 : Hid (OwnS w7 base (.slice (some ⟨g, 0, none⟩) n cap) xs) := own_below HO.out hb7'
        have lk : w.heap.size < w7.heap.size := Nat.lt_of_lt_of_le lk hb7'.size
        have lg : g < w7.heap.size := Nat.lt_of_lt_of_le lg hb7'.size
        have HBd : ∀ m, Hid (Below w.heap.size w (w7.drewN m)) := fun m => HBw7.out.trans (Joins.below_draws w.heap.size _ _)
        have HOd : ∀ m, Hid (OwnS (w7.drewN m) base (.slice (some ⟨g, 0, none⟩) n cap) xs) := fun m => own_below HO7.out (Joins.below_draws _ _ _)
        clear hb7 hb7' HX CB hx7 HO HB HBw HK
        by_cases e1 : x = a
        · by_cases e2 : y = b
          · subst e1
            subst e2
            go_wp2_with fail
            go_quiet (fail)
            go_wp2
            go_ret
            exact ⟨g, n, cap, xs, rfl, HSrt.out, fun q => ⟨fun h => Or.inr h, fun h => h.elim (fun e => by rw [e]; exact hmem.out) id⟩, by have := Hn.out; omega, (HOd _).out, grown_of_below (HBd _).out⟩
          · have b2' : (y == b) = false := by simpa using e2
            have HNe : Hid (befB (a, b) (x, y) = true) := HTri.out.elim (fun e => absurd (Prod.mk.inj e).2 e2) id
            have e1' := e1.symm
            subst e1'
            clear e2 HTri
            go_wp2_with fail
            go_quiet (fail)
            have HSr : Hid (Srt (putAt xs (a, b) t)) := putAt_srt HSrt.out HJ.out (by rw [Hn.out]; exact ht) (fun h => by rw [HP.out]; exact HNe.out)
            obtain ⟨wa, hwa⟩ : ∃ W, w7.drewN nq = W := ⟨_, rfl⟩
            have HOa : Hid (OwnS wa base (.slice (some ⟨g, 0, none⟩) n cap) xs) := by rw [← hwa]; exact (HOd _).out
            have HBa : Hid (Below w.heap.size w wa) := by rw [← hwa]; exact (HBd _).out
            have k0a : wa.cell? ⟨w.heap.size, 0, none⟩ = some (.int .i64 a) := by rw [← hwa]; exact cell_kept (Joins.below_draws _ _ _) k0
            have k1a : wa.cell? ⟨w.heap.size, 1, none⟩ = some (.int .i64 b) := by rw [← hwa]; exact cell_kept (Joins.below_draws _ _ _) k1
            have lka : w.heap.size < wa.heap.size := by rw [← hwa]; exact lk
            have lga : g < wa.heap.size := by rw [← hwa]; exact lg
            rw [hwa]
            clear hwa
            have kt : (t : Int) ≤ (n : Int) := by omega
            have ktc : (t : Int) ≤ (cap : Int) := by omega
            have knc : (n : Int) ≤ (cap : Int) := by omega
            have HNl : Hid (((flat2 xs).drop (t * 2)).length = (n - t) * 2) := by
              show _ = _
              rw [List.length_drop, flat2_len, Hn.out]; omega
            have HNc : Hid (∀ j u, ((flat2 xs).drop (t * 2))[j]? = some u → (wa.alloc (.cells #[] 29)).cell? ((⟨g, t * 2, none⟩ : Addr).add j) = some u) := fun j u h => by
              rw [List.getElem?_drop] at h
              have := (World.ownsRow.alloc HOa.out (.cells #[] 29)).cells (g := g) rfl (t * 2 + j) u h
              rw [Addr.add_mid] at this ⊢
              simpa using this
            have HN1 : Hid (∀ u ∈ (flat2 xs).drop (t * 2), u.oneCell' = true) := fun u hu => by
              have := List.mem_of_mem_drop hu
              simp [flat2] at this
              obtain ⟨j, _, rfl⟩ := this
              rfl
            go_wp2_with (at_builtin; refine wpList_append_own _ rfl _ _ 44 rfl wa.heap.size 29 i0 (.agg #[.int .i64 0, .int .i64 0]) 2 16 Tryd.underlying44 hi hz0 hz1 hz2 rfl (by decide) _ 0 [] rfl (World.ownsRow_lit (base := wa.heap.size) (e := 29) (size := 2) wa #[] 0 (Nat.le_refl _) (by unfold maxLen; omega) rfl) ⟨g, t * 2, none⟩ (n - t) (cap - t) ((flat2 xs).drop (t * 2)) rfl HNl.out HNc.out HN1.out (by unfold maxLen; omega) (by omega) (by simp) ?_)
            intro v6 w6 hown6 hg6 _
            have hb6 : Below wa.heap.size wa w6 := ((Below.refl _ wa).alloc (Nat.le_refl _) _).grown hg6 (by simp) (fun k hk => by cases hk; exact Nat.le_refl _)
            obtain ⟨g6, c6, rfl⟩ := Joins.ownsRow_form hown6 (by omega)
            have hg6l := hown6.lt g6 rfl
            have hne6 : g6 ≠ g := by omega
            have HR6 := Lib.hid hown6
            have HO6 := Lib.hid (own_below HOa.out hb6)
            have B6 := Lib.hid (HBa.out.trans (hb6.mono (by omega)))
            have k0b := cell_kept hb6 k0a
            have k1b := cell_kept hb6 k1a
            have lkb : w.heap.size < w6.heap.size := Nat.lt_of_lt_of_le lka hb6.size
            have lgb : g < w6.heap.size := Nat.lt_of_lt_of_le lga hb6.size
            have hb6' : Below w6.heap.size w6 (w6.alloc (.cells #[.int .i64 a, .int .i64 b] 29)).drew := (Joins.below_alloc1 w6 _).drew
            have H1 : Hid ((w6.alloc (.cells #[.int .i64 a, .int .i64 b] 29)).drew.ownsRow base 29 2 (.slice (some ⟨g, 0, none⟩) t cap) t ((flat2 xs).take (t * 2))) := by
              have h := own_below HO6.out hb6'
              rw [Hn.out] at h
              exact own_take h t ht
            have HR6' : Hid ((w6.alloc (.cells #[.int .i64 a, .int .i64 b] 29)).drew.ownsRow wa.heap.size 29 2 (.slice (some ⟨g6, 0, none⟩) (n - t) c6) (n - t) ((flat2 xs).drop (t * 2))) := own_below HR6.out hb6'
            have G6 : Hid (w.grownBy (w6.alloc (.cells #[.int .i64 a, .int .i64 b] 29)).drew (some g)) := grown_of_below (B6.out.trans (hb6'.mono (by omega)))
            clear hown6 hg6 hb6 hb6' HNc k0a k1a lka
            go_wp2
            go_region_law (first | (refine step_append_at rfl _ _ 44 rfl base 29 i0 (.agg #[.int .i64 0, .int .i64 0]) 2 16 Tryd.underlying44 hi hz0 hz1 hz2 rfl (by decide) _ _ _ rfl H1.out ⟨w6.heap.size, 0, none⟩ 1 1 [.int .i64 a, .int .i64 b] rfl rfl (two_cells_new _ _ _ _) (by intro u hu; simp at hu; rcases hu with rfl | rfl <;> rfl) (by unfold maxLen; omega) (by omega) (by simp; omega) ?_; intro v8 w8 hown8 hg8 hor8; obtain ⟨g8, c8, rfl⟩ := Joins.ownsRow_form hown8 (by omega); have HR8 := Lib.hid (HR6'.out.kept hg8 (.inr (fun e => hne6 (Option.some.inj e))))) | (refine step_append_at rfl _ _ 44 rfl base 29 i0 (.agg #[.int .i64 0, .int .i64 0]) 2 16 Tryd.underlying44 hi hz0 hz1 hz2 rfl (by decide) _ _ _ rfl hown8 ⟨g6, 0, none⟩ (n - t) c6 ((flat2 xs).drop (t * 2)) rfl HNl.out (fun j u h => HR8.out.cells (g := g6) rfl j u h) HN1.out (by unfold maxLen; omega) (by omega) (Nat.le_of_lt (Nat.lt_of_le_of_lt (hown8.lt g8 rfl).1 (hown8.lt g8 rfl).2)) ?_; intro v9 w9 hown9 hg9 hor9; obtain ⟨g9, c9, rfl⟩ := Joins.ownsRow_form hown9 (by omega)))
            all_goals go_wp2
            all_goals go_ret
            all_goals refine ⟨g9, _, c9, putAt xs (a, b) t, rfl, HSr.out, fun q => putAt_mem xs (a, b) q t, by rw [putAt_len, Hn.out]; exact Nat.le_refl _, ?_, ?_⟩
            all_goals first | (unfold OwnS; rw [putAt_len, Hn.out, putAt_flat xs (a, b) t (by rw [Hn.out]; exact ht), show n + 1 = t + 1 + (n - t) from by omega]; exact hown9) | exact grown_then (grown_then G6 hg8 (fun j hj => Or.inl (by cases hj; rfl))) hg9 (fun j hj => by cases hj; rcases hor8 with e | e; exact Or.inl (Option.some.inj e); exact Or.inr (by have := Option.some.inj e; simp at this; show w.heap.size ≤ g8; omega))
        · have b1' : (x == a) = false := by simpa using e1
          have HNe : Hid (befB (a, b) (x, y) = true) := HTri.out.elim (fun e => absurd (Prod.mk.inj e).1 e1) id
          clear e1 HTri
          go_wp2_with fail
          go_quiet (fail)
          have HSr : Hid (Srt (putAt xs (a, b) t)) := putAt_srt HSrt.out HJ.out (by rw [Hn.out]; exact ht) (fun h => by rw [HP.out]; exact HNe.out)
          obtain ⟨wa, hwa⟩ : ∃ W, w7.drewN nq = W := ⟨_, rfl⟩
          have HOa : Hid (OwnS wa base (.slice (some ⟨g, 0, none⟩) n cap) xs) := by rw [← hwa]; exact (HOd _).out
          have HBa : Hid (Below w.heap.size w wa) := by rw [← hwa]; exact (HBd _).out
          have k0a : wa.cell? ⟨w.heap.size, 0, none⟩ = some (.int .i64 a) := by rw [← hwa]; exact cell_kept (Joins.below_draws _ _ _) k0
          have k1a : wa.cell? ⟨w.heap.size, 1, none⟩ = some (.int .i64 b) := by rw [← hwa]; exact cell_kept (Joins.below_draws _ _ _) k1
          have lka : w.heap.size < wa.heap.size := by rw [← hwa]; exact lk
          have lga : g < wa.heap.size := by rw [← hwa]; exact lg
          rw [hwa]
          clear hwa
          have kt : (t : Int) ≤ (n : Int) := by omega
          have ktc : (t : Int) ≤ (cap : Int) := by omega
          have knc : (n : Int) ≤ (cap : Int) := by omega
          have HNl : Hid (((flat2 xs).drop (t * 2)).length = (n - t) * 2) := by
            show _ = _
            rw [List.length_drop, flat2_len, Hn.out]; omega
          have HNc : Hid (∀ j u, ((flat2 xs).drop (t * 2))[j]? = some u → (wa.alloc (.cells #[] 29)).cell? ((⟨g, t * 2, none⟩ : Addr).add j) = some u) := fun j u h => by
            rw [List.getElem?_drop] at h
            have := (World.ownsRow.alloc HOa.out (.cells #[] 29)).cells (g := g) rfl (t * 2 + j) u h
            rw [Addr.add_mid] at this ⊢
            simpa using this
          have HN1 : Hid (∀ u ∈ (flat2 xs).drop (t * 2), u.oneCell' = true) := fun u hu => by
            have := List.mem_of_mem_drop hu
            simp [flat2] at this
            obtain ⟨j, _, rfl⟩ := this
            rfl
          go_wp2_with (at_builtin; refine wpList_append_own _ rfl _ _ 44 rfl wa.heap.size 29 i0 (.agg #[.int .i64 0, .int .i64 0]) 2 16 Tryd.underlying44 hi hz0 hz1 hz2 rfl (by decide) _ 0 [] rfl (World.ownsRow_lit (base := wa.heap.size) (e := 29) (size := 2) wa #[] 0 (Nat.le_refl _) (by unfold maxLen; omega) rfl) ⟨g, t * 2, none⟩ (n - t) (cap - t) ((flat2 xs).drop (t * 2)) rfl HNl.out HNc.out HN1.out (by unfold maxLen; omega) (by omega) (by simp) ?_)
          intro v6 w6 hown6 hg6 _
          have hb6 : Below wa.heap.size wa w6 := ((Below.refl _ wa).alloc (Nat.le_refl _) _).grown hg6 (by simp) (fun k hk => by cases hk; exact Nat.le_refl _)
          obtain ⟨g6, c6, rfl⟩ := Joins.ownsRow_form hown6 (by omega)
          have hg6l := hown6.lt g6 rfl
          have hne6 : g6 ≠ g := by omega
          have HR6 := Lib.hid hown6
          have HO6 := Lib.hid (own_below HOa.out hb6)
          have B6 := Lib.hid (HBa.out.trans (hb6.mono (by omega)))
          have k0b := cell_kept hb6 k0a
          have k1b := cell_kept hb6 k1a
          have lkb : w.heap.size < w6.heap.size := Nat.lt_of_lt_of_le lka hb6.size
          have lgb : g < w6.heap.size := Nat.lt_of_lt_of_le lga hb6.size
          have hb6' : Below w6.heap.size w6 (w6.alloc (.cells #[.int .i64 a, .int .i64 b] 29)).drew := (Joins.below_alloc1 w6 _).drew
          have H1 : Hid ((w6.alloc (.cells #[.int .i64 a, .int .i64 b] 29)).drew.ownsRow base 29 2 (.slice (some ⟨g, 0, none⟩) t cap) t ((flat2 xs).take (t * 2))) := by
            have h := own_below HO6.out hb6'
            rw [Hn.out] at h
            exact own_take h t ht
          have HR6' : Hid ((w6.alloc (.cells #[.int .i64 a, .int .i64 b] 29)).drew.ownsRow wa.heap.size 29 2 (.slice (some ⟨g6, 0, none⟩) (n - t) c6) (n - t) ((flat2 xs).drop (t * 2))) := own_below HR6.out hb6'
          have G6 : Hid (w.grownBy (w6.alloc (.cells #[.int .i64 a, .int .i64 b] 29)).drew (some g)) := grown_of_below (B6.out.trans (hb6'.mono (by omega)))
          clear hown6 hg6 hb6 hb6' HNc k0a k1a lka
          go_wp2
          go_region_law (first | (refine step_append_at rfl _ _ 44 rfl base 29 i0 (.agg #[.int .i64 0, .int .i64 0]) 2 16 Tryd.underlying44 hi hz0 hz1 hz2 rfl (by decide) _ _ _ rfl H1.out ⟨w6.heap.size, 0, none⟩ 1 1 [.int .i64 a, .int .i64 b] rfl rfl (two_cells_new _ _ _ _) (by intro u hu; simp at hu; rcases hu with rfl | rfl <;> rfl) (by unfold maxLen; omega) (by omega) (by simp; omega) ?_; intro v8 w8 hown8 hg8 hor8; obtain ⟨g8, c8, rfl⟩ := Joins.ownsRow_form hown8 (by omega); have HR8 := Lib.hid (HR6'.out.kept hg8 (.inr (fun e => hne6 (Option.some.inj e))))) | (refine step_append_at rfl _ _ 44 rfl base 29 i0 (.agg #[.int .i64 0, .int .i64 0]) 2 16 Tryd.underlying44 hi hz0 hz1 hz2 rfl (by decide) _ _ _ rfl hown8 ⟨g6, 0, none⟩ (n - t) c6 ((flat2 xs).drop (t * 2)) rfl HNl.out (fun j u h => HR8.out.cells (g := g6) rfl j u h) HN1.out (by unfold maxLen; omega) (by omega) (Nat.le_of_lt (Nat.lt_of_le_of_lt (hown8.lt g8 rfl).1 (hown8.lt g8 rfl).2)) ?_; intro v9 w9 hown9 hg9 hor9; obtain ⟨g9, c9, rfl⟩ := Joins.ownsRow_form hown9 (by omega)))
          all_goals go_wp2
          all_goals go_ret
          all_goals refine ⟨g9, _, c9, putAt xs (a, b) t, rfl, HSr.out, fun q => putAt_mem xs (a, b) q t, by rw [putAt_len, Hn.out]; exact Nat.le_refl _, ?_, ?_⟩
          all_goals first | (unfold OwnS; rw [putAt_len, Hn.out, putAt_flat xs (a, b) t (by rw [Hn.out]; exact ht), show n + 1 = t + 1 + (n - t) from by omega]; exact hown9) | exact grown_then (grown_then G6 hg8 (fun j hj => Or.inl (by cases hj; rfl))) hg9 (fun j hj => by cases hj; rcases hor8 with e | e; exact Or.inl (Option.some.inj e); exact Or.inr (by have := Option.some.inj e; simp at this; show w.heap.size ≤ g8; omega))
    · obtain rfl : t = n := by omega
      have kd : decide (t < t) = false := decide_eq_false (by omega)
      have HBd : ∀ m, Hid (Below w.heap.size w (wr.drewN m)) := fun m => HBw.out.trans (Joins.below_draws w.heap.size _ _)
      have HOd : ∀ m, Hid (OwnS (wr.drewN m) base (.slice (some ⟨g, 0, none⟩) t cap) xs) := fun m => own_below HO.out (Joins.below_draws _ _ _)
      go_wp2_with fail
      go_quiet (fail)
      obtain ⟨nq1, hnq1⟩ : ∃ k, nq = k := ⟨_, rfl⟩
      rw [hnq1]
      go_wp2_with fail
      go_quiet (fail)
      have HSr : Hid (Srt (putAt xs (a, b) t)) := putAt_srt HSrt.out HJ.out (by rw [Hn.out]; exact ht) (fun h => absurd h (by rw [Hn.out]; omega))
      obtain ⟨wa, hwa⟩ : ∃ W, (wr.drewN nq1).drewN nq = W := ⟨_, rfl⟩
      have HOa : Hid (OwnS wa base (.slice (some ⟨g, 0, none⟩) t cap) xs) := by rw [← hwa]; exact own_below (HOd _).out (Joins.below_draws _ _ _)
      have HBa : Hid (Below w.heap.size w wa) := by rw [← hwa]; exact (HBd _).out.trans (Joins.below_draws w.heap.size _ _)
      have k0a : wa.cell? ⟨w.heap.size, 0, none⟩ = some (.int .i64 a) := by rw [← hwa]; exact cell_kept (Joins.below_draws _ _ _) (cell_kept (Joins.below_draws _ _ _) k0)
      have k1a : wa.cell? ⟨w.heap.size, 1, none⟩ = some (.int .i64 b) := by rw [← hwa]; exact cell_kept (Joins.below_draws _ _ _) (cell_kept (Joins.below_draws _ _ _) k1)
      have lka : w.heap.size < wa.heap.size := by rw [← hwa]; exact lk
      have lga : g < wa.heap.size := by rw [← hwa]; exact lg
      rw [hwa]
      clear hwa
      have kt : (t : Int) ≤ (t : Int) := by omega
      have ktc : (t : Int) ≤ (cap : Int) := by omega
      have knc : (t : Int) ≤ (cap : Int) := by omega
      by_cases hct : cap = t
      · subst hct
        have hb6 : Below wa.heap.size wa ((wa.alloc (.cells #[] 29)).alloc (.cells #[.int .i64 a, .int .i64 b] 29)).drew := (Joins.below_alloc2 wa _ _).drew
        have H1 : Hid (((wa.alloc (.cells #[] 29)).alloc (.cells #[.int .i64 a, .int .i64 b] 29)).drew.ownsRow base 29 2 (.slice (some ⟨g, 0, none⟩) cap cap) cap (flat2 xs)) := by
          have h := own_below HOa.out hb6
          unfold OwnS at h
          rw [Hn.out] at h
          exact h
        have G6 : Hid (w.grownBy ((wa.alloc (.cells #[] 29)).alloc (.cells #[.int .i64 a, .int .i64 b] 29)).drew (some g)) := grown_of_below (HBa.out.trans (hb6.mono (by omega)))
        have lkb : w.heap.size < (wa.alloc (.cells #[] 29)).heap.size := by simp; omega
        have k0b := cell_kept (Joins.below_alloc1 wa (.cells #[] 29)) k0a
        have k1b := cell_kept (Joins.below_alloc1 wa (.cells #[] 29)) k1a
        clear hb6
        go_wp2
        go_region_law (first | (refine step_append_at rfl _ _ 44 rfl base 29 i0 (.agg #[.int .i64 0, .int .i64 0]) 2 16 Tryd.underlying44 hi hz0 hz1 hz2 rfl (by decide) _ _ _ rfl H1.out ⟨wa.heap.size + 1, 0, none⟩ 1 1 [.int .i64 a, .int .i64 b] rfl rfl (two_cells_new1 _ _ _ _ _) (by intro u hu; simp at hu; rcases hu with rfl | rfl <;> rfl) (by unfold maxLen; omega) (by omega) (by simp; omega) ?_; intro v8 w8 hown8 hg8 hor8; obtain ⟨g8, c8, rfl⟩ := Joins.ownsRow_form hown8 (by omega)) | (refine step_append_at rfl _ _ 44 rfl base 29 i0 (.agg #[.int .i64 0, .int .i64 0]) 2 16 Tryd.underlying44 hi hz0 hz1 hz2 rfl (by decide) _ _ _ rfl hown8 ⟨wa.heap.size, 0, none⟩ 0 0 [] rfl rfl (fun j u h => by simp at h) (by simp) (by unfold maxLen; omega) (by omega) (Nat.le_of_lt (Nat.lt_of_le_of_lt (hown8.lt g8 rfl).1 (hown8.lt g8 rfl).2)) ?_; intro v9 w9 hown9 hg9 hor9; obtain ⟨g9, c9, rfl⟩ := Joins.ownsRow_form hown9 (by omega)))
        all_goals go_wp2
        all_goals go_ret
        all_goals refine ⟨g9, _, c9, putAt xs (a, b) cap, rfl, HSr.out, fun q => putAt_mem xs (a, b) q cap, by rw [putAt_len, Hn.out]; exact Nat.le_refl _, ?_, ?_⟩
        all_goals first | (unfold OwnS; rw [putAt_len, Hn.out, putAt_flat xs (a, b) cap (by rw [Hn.out]; exact ht), flat2_take_all xs cap Hn.out, flat2_drop_all xs cap Hn.out]; exact hown9) | exact grown_then (grown_then G6 hg8 (fun j hj => Or.inl (by cases hj; rfl))) hg9 (fun j hj => by cases hj; rcases hor8 with e | e; exact Or.inl (Option.some.inj e); exact Or.inr (by have := Option.some.inj e; simp at this; show w.heap.size ≤ g8; omega))
      · have hb6 : Below wa.heap.size wa ((wa.alloc (.cells #[] 29)).alloc (.cells #[.int .i64 a, .int .i64 b] 29)).drew := (Joins.below_alloc2 wa _ _).drew
        have H1 : Hid (((wa.alloc (.cells #[] 29)).alloc (.cells #[.int .i64 a, .int .i64 b] 29)).drew.ownsRow base 29 2 (.slice (some ⟨g, 0, none⟩) t cap) t (flat2 xs)) := by
          have h := own_below HOa.out hb6
          unfold OwnS at h
          rw [Hn.out] at h
          exact h
        have G6 : Hid (w.grownBy ((wa.alloc (.cells #[] 29)).alloc (.cells #[.int .i64 a, .int .i64 b] 29)).drew (some g)) := grown_of_below (HBa.out.trans (hb6.mono (by omega)))
        have lkb : w.heap.size < (wa.alloc (.cells #[] 29)).heap.size := by simp; omega
        have k0b := cell_kept (Joins.below_alloc1 wa (.cells #[] 29)) k0a
        have k1b := cell_kept (Joins.below_alloc1 wa (.cells #[] 29)) k1a
        clear hb6
        go_wp2
        go_region_law (first | (refine step_append_at rfl _ _ 44 rfl base 29 i0 (.agg #[.int .i64 0, .int .i64 0]) 2 16 Tryd.underlying44 hi hz0 hz1 hz2 rfl (by decide) _ _ _ rfl H1.out ⟨wa.heap.size + 1, 0, none⟩ 1 1 [.int .i64 a, .int .i64 b] rfl rfl (two_cells_new1 _ _ _ _ _) (by intro u hu; simp at hu; rcases hu with rfl | rfl <;> rfl) (by unfold maxLen; omega) (by omega) (by simp; omega) ?_; intro v8 w8 hown8 hg8 hor8; obtain ⟨g8, c8, rfl⟩ := Joins.ownsRow_form hown8 (by omega)) | (refine step_append_at rfl _ _ 44 rfl base 29 i0 (.agg #[.int .i64 0, .int .i64 0]) 2 16 Tryd.underlying44 hi hz0 hz1 hz2 rfl (by decide) _ _ _ rfl hown8 ⟨wa.heap.size, 0, none⟩ 0 0 [] rfl rfl (fun j u h => by simp at h) (by simp) (by unfold maxLen; omega) (by omega) (Nat.le_of_lt (Nat.lt_of_le_of_lt (hown8.lt g8 rfl).1 (hown8.lt g8 rfl).2)) ?_; intro v9 w9 hown9 hg9 hor9; obtain ⟨g9, c9, rfl⟩ := Joins.ownsRow_form hown9 (by omega)))
        all_goals go_wp2
        all_goals go_ret
        all_goals refine ⟨g9, _, c9, putAt xs (a, b) t, rfl, HSr.out, fun q => putAt_mem xs (a, b) q t, by rw [putAt_len, Hn.out]; exact Nat.le_refl _, ?_, ?_⟩
        all_goals first | (unfold OwnS; rw [putAt_len, Hn.out, putAt_flat xs (a, b) t (by rw [Hn.out]; exact ht), flat2_take_all xs t Hn.out, flat2_drop_all xs t Hn.out]; exact hown9) | exact grown_then (grown_then G6 hg8 (fun j hj => Or.inl (by cases hj; rfl))) hg9 (fun j hj => by cases hj; rcases hor8 with e | e; exact Or.inl (Option.some.inj e); exact Or.inr (by have := Option.some.inj e; simp at this; show w.heap.size ≤ g8; omega))
end Go.Proofs.YtabkkpifkkgpeaaDoor
