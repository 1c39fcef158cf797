/- Contracts of single functions, and plain lemmas, on which the exact laws of this seat rest; each holds under the conditions that it states. -/
import Derived.Test.YtabkkpifkkgpeaaDoorIs
import Derived.Deep.RegionLaw
import Derived.OwnWalk
import Derived.Maps.AppendAt
import Derived.Test.YtabkkpifkkgpeaaDoorCX1
import Derived.Test.YtabkkpifkkgpeaaDoorCVE
import Derived.Test.YtabkkpifkkgpeaaDoorD1
import Derived.Test.YtabkkpifkkgpeaaDoorGA
namespace Go.Proofs.YtabkkpifkkgpeaaDoor
set_option linter.unusedVariables false
set_option linter.unusedSimpArgs false
open Go.RowKit

/-- append to a row of the call's own, as one step of a region that draws its order -/
theorem step_append_own {P : Program} {ops : Array Oper} {o : Oper} {a : Act} {w : World} {K : Act → World → Prop} {Q : Exit → Act → World → Prop} {E : Prop}
    (hg : o.guard = none) (s x : Operand) (t : TypeId) (ho : o.op = .call { callee := .builtin .append, args := #[s, x], argTypes := #[t, t] })
    (base : Nat) (e : TypeId) (i : TypeInfo) (z : Value) (size bytes : Nat) (ht : P.underlying t = some (.slice e)) (hi : P.info? e = some i) (hz : i.zero = some z)
    (hsize : i.size = size) (hby : i.bytes = bytes) (hzs : z.cells.size = size) (hsz : 0 < size)
    (v : Value) (n : Nat) (xs : List Value) (hs : a.eval s = v) (hown : w.ownsRow base e size v n xs)
    (ad : Addr) (m c : Nat) (news : List Value) (hx : a.eval x = .slice (some ad) m c) (hl : news.length = m * size) (hnews : ∀ j u, news[j]? = some u → w.cell? (ad.add j) = some u) (h1 : ∀ u ∈ news, u.oneCell' = true)
    (h63 : n + m ≤ maxLen) (hbytes : (n + m) * bytes ≤ 140737488355328) (hbase : base ≤ w.heap.size)
    (h : ∀ v' w', w'.ownsRow base e size v' (n + m) (xs ++ news) → w.grownBy w' v.ownBlock → K (a.put o.dst v') w') :
    if Region.wanted o (yielded ops a.tmps) = true then Oper.wp P o a w K Q else E := by
  have hw : Region.wanted o (yielded ops a.tmps) = true := by simp [Region.wanted, hg]
  rw [if_pos hw]
  exact wp_append_own w s x t ho base e i z size bytes ht hi hz hsize hby hzs hsz v n xs hs hown ad m c news hx hl hnews h1 h63 hbytes hbase fun v' w' h2 h3 _ => h v' w' h2 h3
/-- the same, which tells the block too -/
theorem step_append_at {P : Program} {ops : Array Oper} {o : Oper} {a : Act} {w : World} {K : Act → World → Prop} {Q : Exit → Act → World → Prop} {E : Prop}
    (hg : o.guard = none) (s x : Operand) (t : TypeId) (ho : o.op = .call { callee := .builtin .append, args := #[s, x], argTypes := #[t, t] })
    (base : Nat) (e : TypeId) (i : TypeInfo) (z : Value) (size bytes : Nat) (ht : P.underlying t = some (.slice e)) (hi : P.info? e = some i) (hz : i.zero = some z)
    (hsize : i.size = size) (hby : i.bytes = bytes) (hzs : z.cells.size = size) (hsz : 0 < size)
    (v : Value) (n : Nat) (xs : List Value) (hs : a.eval s = v) (hown : w.ownsRow base e size v n xs)
    (ad : Addr) (m c : Nat) (news : List Value) (hx : a.eval x = .slice (some ad) m c) (hl : news.length = m * size) (hnews : ∀ j u, news[j]? = some u → w.cell? (ad.add j) = some u) (h1 : ∀ u ∈ news, u.oneCell' = true)
    (h63 : n + m ≤ maxLen) (hbytes : (n + m) * bytes ≤ 140737488355328) (hbase : base ≤ w.heap.size)
    (h : ∀ v' w', w'.ownsRow base e size v' (n + m) (xs ++ news) → w.grownBy w' v.ownBlock → (v'.ownBlock = v.ownBlock ∨ v'.ownBlock = some w.heap.size) → K (a.put o.dst v') w') :
    if Region.wanted o (yielded ops a.tmps) = true then Oper.wp P o a w K Q else E := by
  have hw : Region.wanted o (yielded ops a.tmps) = true := by simp [Region.wanted, hg]
  rw [if_pos hw]
  obtain ⟨v', w', hr, h2, h3, h4, h5⟩ := run_append_own_at (P := P) w base t o.type e i z size bytes ht hi hz hsize hby hzs hsz v n xs hown ad m c news hl hnews h1 h63 hbytes hbase
  unfold Oper.wp execOp
  simp only [ho, resolve, invoke, builtin, Sem.run_bind, Sem.run_pure, Result.andThen_ok, List.map_toArray, List.map_cons, List.map_nil, hs, hx, hr]
  exact h v' w' h2 h3 h5
end Go.Proofs.YtabkkpifkkgpeaaDoor

/- Contracts of single functions, and plain lemmas, on which the exact laws of this seat rest; each holds under the conditions that it states. -/
namespace Go.Proofs.YtabkkpifkkgpeaaDoor
set_option linter.unusedVariables false
set_option linter.unusedSimpArgs false
open Go.RowKit
attribute [local go_sem] Oper.semAt_some

theorem news_one {W : World} {mb : Nat} {u0 : Value} (h : W.cell? ⟨mb, 0, none⟩ = some u0) : ∀ (j : Nat) (u : Value), [u0][j]? = some u → W.cell? ((⟨mb, 0, none⟩ : Addr).add j) = some u := fun j u hu => by
  rcases j with _ | j
  · simp at hu
    subst hu
    simpa [Addr.add] using h
  · simp at hu
def jl (L : List (Int × Int)) (k : Nat) : List Int := (List.range k).map (jmp L)
theorem jl_len (L : List (Int × Int)) (k : Nat) : (jl L k).length = k := by simp [jl]
theorem jl_snoc (L : List (Int × Int)) (k : Nat) : numsV (jl L (k + 1)) = numsV (jl L k) ++ [.int .i64 (jmp L k)] := by
  unfold jl numsV
  rw [List.range_succ]
  simp
theorem jl_at (L : List (Int × Int)) (k i : Nat) (h : i < k) : (jl L k).getD i 0 = jmp L i := by simp [jl, h]

set_option maxHeartbeats 4000000 in
set_option maxRecDepth 100000 in
theorem jumps_any (g cap : Nat) (L : List (Int × Int)) (w : World) (hS : Spots w g L) (hSm : ∀ i, Small (L.getD i (0, 0)).1 ∧ Small (L.getD i (0, 0)).2) (h1 : 1 ≤ L.length) (h256 : L.length ≤ 256) :
    Calls Tryd.prog 48 #[.slice (some ⟨g, 0, none⟩) L.length cap] w (fun e w' => ∃ v, e = .returned v ∧ OwnN w' w.heap.size v (jl L (L.length - 1)) ∧ Below w.heap.size w w') := by
  obtain ⟨i0, hi0, hz0, hz1, hz2⟩ := info_parts infoN64
  have HJ : Hid (∀ k W, Calls Tryd.prog 60 #[.int .i64 0, .agg #[.int .i64 (L.getD k (0, 0)).1, .int .i64 (L.getD k (0, 0)).2], .agg #[.int .i64 (L.getD (k + 1) (0, 0)).1, .int .i64 (L.getD (k + 1) (0, 0)).2]] W (fun e w' => e = .returned (.int .i64 (jmp L k)) ∧ Below W.heap.size W w')) := fun k W => between_any 0 _ _ _ _ W (hSm k).1 (hSm k).2 (hSm (k + 1)).1 (hSm (k + 1)).2
  have HSn := Lib.hid (jl_snoc L)
  have HLen := Lib.hid (jl_len L)
  have H0 : Hid (jl L 0 = []) := rfl
  obtain ⟨N, hN⟩ : ∃ N, L.length = N := ⟨_, rfl⟩
  have HNl := Lib.hid hN
  have HSp : Hid (∀ k W, k < N → Below w.heap.size w W → W.cell? ⟨g, k * 2, none⟩ = some (.int .i64 (L.getD k (0, 0)).1) ∧ W.cell? ⟨g, k * 2 + 1, none⟩ = some (.int .i64 (L.getD k (0, 0)).2)) := fun k W hk hb => ⟨cell_kept hb (hS.2 k (by rw [hN]; exact hk)).1, cell_kept hb (hS.2 k (by rw [hN]; exact hk)).2⟩
  rw [hN] at h1 h256 ⊢
  clear hS hSm hN
  go_enter Tryd.func48, Tryd.ntmps48
  go_wp2_with fail
  go_loopw [3, 4] (fun lv iv wr => ∃ (u : Value) (i : Nat), u = lv ∧ 1 ≤ i ∧ i ≤ N ∧ iv = .int .i64 (i : Int) ∧ Hid (OwnN wr w.heap.size u (jl L (i - 1))) ∧ Hid (Below w.heap.size w wr)) (fun _ iv _ => N - (intOf iv).toNat)
  case atStart => exact ⟨_, 1, rfl, by omega, h1, rfl, by rw [H0.out]; exact Lib.hid (World.ownsRow_nil _ _ _ _), Lib.hid (Below.refl _ _)⟩
  case round =>
    obtain ⟨lv, i, rfl, hi1, hiN, rfl, HO, HB⟩ := hrel
    by_cases hlt : i < N
    · obtain ⟨j, hj⟩ : ∃ j, i - 1 = j := ⟨_, rfl⟩
      have hij : i = j + 1 := by omega
      have ki : (i : Int) < (N : Int) := by omega
      have ki0 : (0 : Int) ≤ (i : Int) := by omega
      have kj : (j : Int) < (N : Int) := by omega
      have kj0 : (0 : Int) ≤ (j : Int) := by omega
      have kw : IntKind.i64.wrap ((i : Int) - 1) = (j : Int) := by rw [show (i : Int) - 1 = (j : Int) from by omega]; exact IntWalk.i64_in _ (by omega)
      have CB := Lib.hid (HJ.out j)
      rw [← hij] at CB
      have s1 := fun W hb => HSp.out j W (by omega) hb
      have s2 := fun W hb => HSp.out i W hlt hb
      rw [hj] at HO
      have HSn2 := Lib.hid (HSn.out j)
      rw [← hij] at HSn2
      have HL2 := Lib.hid (HLen.out i)
      have hl := HLen.out j
      obtain ⟨ax, ha1⟩ : ∃ z, (L.getD j (0, 0)).1 = z := ⟨_, rfl⟩
      obtain ⟨ay, ha2⟩ : ∃ z, (L.getD j (0, 0)).2 = z := ⟨_, rfl⟩
      obtain ⟨bx, hb1⟩ : ∃ z, (L.getD i (0, 0)).1 = z := ⟨_, rfl⟩
      obtain ⟨b_y, hb2⟩ : ∃ z, (L.getD i (0, 0)).2 = z := ⟨_, rfl⟩
      rw [ha1, ha2, hb1, hb2] at CB
      have HC : Hid (∀ W, Below wr.heap.size wr W → W.cell? ⟨g, j * 2, none⟩ = some (.int .i64 ax) ∧ W.cell? ⟨g, j * 2 + 1, none⟩ = some (.int .i64 ay) ∧ W.cell? ⟨g, i * 2, none⟩ = some (.int .i64 bx) ∧ W.cell? ⟨g, i * 2 + 1, none⟩ = some (.int .i64 b_y)) := fun W hb => by
        have hb' := HB.out.trans (hb.mono HB.out.size)
        have t1 := s1 W hb'
        have t2 := s2 W hb'
        rw [ha1, ha2] at t1
        rw [hb1, hb2] at t2
        exact ⟨t1.1, t1.2, t2.1, t2.2⟩
      obtain ⟨z, hz⟩ : ∃ z, jmp L j = z := ⟨_, rfl⟩
      rw [hz] at CB HSn2
      have hO1 := HO.out
      unfold OwnN at hO1
      rw [hl] at hO1
      obtain ⟨JV, hJV⟩ : ∃ l, numsV (jl L j) = l := ⟨_, rfl⟩
      rw [hJV] at hO1 HSn2
      have HO2 : Hid (∀ W, Below wr.heap.size wr W → W.ownsRow w.heap.size 2 1 lv j JV) := fun W hb => own_below hO1 hb
      have hle := HB.out.size
      have HOlt : Hid (∀ k, lv.ownBlock = some k → w.heap.size ≤ k) := fun k hk => (hO1.lt k hk).1
      have Hij := Lib.hid hij
      clear s1 s2 ha1 ha2 hb1 hb2 hz hj hJV hO1 HO hl hij
      go_upto_region 5 with fail
      refine wp_region_inv_at (by kernel_rfl) (fun A0 L A W => ∃ (b0 b1 b2 b3 b4 b5 b6 b7 b8 b9 b10 b11 b12 b13 : Bool) (v11 v12 v13 v14 v15 v16 v17 v18 v19 v20 v21 v22 v23 v3 : Value), L = #[b0, b1, b2, b3, b4, b5, b6, b7, b8, b9, b10, b11, b12, b13] ∧ A = ((((((((((((((A0.put (some 11) v11).put (some 12) v12).put (some 13) v13).put (some 14) v14).put (some 15) v15).put (some 16) v16).put (some 17) v17).put (some 18) v18).put (some 19) v19).put (some 20) v20).put (some 21) v21).put (some 22) v22).put (some 23) v23).put (some 3) v3) ∧ (∃ Wp, Below wr.heap.size wr Wp ∧ (if b12 = true then W.ownsRow w.heap.size 2 1 v23 (j + 1) (JV ++ [.int .i64 z]) ∧ Wp.grownBy W lv.ownBlock else W = Wp)) ∧ Hid (b0 = true → v11 = lv) ∧ Hid (b1 = true → v12 = .slice (some ⟨g, 0, none⟩) N cap) ∧ Hid (b2 = true → v13 = .int .i64 (i : Int)) ∧ Hid (b3 = true → v14 = .int .i64 (j : Int)) ∧ Hid (b4 = true → v15 = .pointer (some ⟨g, j * 2, none⟩)) ∧ Hid (b5 = true → v16 = .agg #[.int .i64 ax, .int .i64 ay]) ∧ Hid (b6 = true → v17 = .slice (some ⟨g, 0, none⟩) N cap) ∧ Hid (b7 = true → v18 = .int .i64 (i : Int)) ∧ Hid (b8 = true → v19 = .pointer (some ⟨g, i * 2, none⟩)) ∧ Hid (b9 = true → v20 = .agg #[.int .i64 bx, .int .i64 b_y]) ∧ Hid (b10 = true → v21 = .int .i64 z) ∧ Hid (b11 = true → b12 = false → ∃ mb, v22 = .slice (some ⟨mb, 0, none⟩) 1 1 ∧ W.cell? ⟨mb, 0, none⟩ = some (.int .i64 z)) ∧ Hid (b13 = true → v3 = v23) ∧ Hid ((b0 = false → b12 = false) ∧ (b11 = false → b12 = false)) ∧ Hid (b4 = true → b1 = true) ∧ Hid (b3 = true → b2 = true) ∧ Hid (b4 = true → b3 = true) ∧ Hid (b5 = true → b4 = true) ∧ Hid (b10 = true → b5 = true) ∧ Hid (b8 = true → b6 = true) ∧ Hid (b8 = true → b7 = true) ∧ Hid (b9 = true → b8 = true) ∧ Hid (b10 = true → b9 = true) ∧ Hid (b11 = true → b10 = true) ∧ Hid (b13 = true → b12 = true) ∧ Hid (b13 = false → v3 = A0.tmps.getD 3 undef) ∧ Hid (b0 = false → b13 = false)) ?_ ?_ ?_
      · intro A0
        refine ⟨false, false, false, false, false, false, false, false, false, false, false, false, false, false, A0.tmps.getD 11 undef, A0.tmps.getD 12 undef, A0.tmps.getD 13 undef, A0.tmps.getD 14 undef, A0.tmps.getD 15 undef, A0.tmps.getD 16 undef, A0.tmps.getD 17 undef, A0.tmps.getD 18 undef, A0.tmps.getD 19 undef, A0.tmps.getD 20 undef, A0.tmps.getD 21 undef, A0.tmps.getD 22 undef, A0.tmps.getD 23 undef, A0.tmps.getD 3 undef, rfl, (by simp only [put_self]), ⟨_, (Below.refl _ _).drew, (by simp)⟩, Lib.hid (fun hf => by cases hf), Lib.hid (fun hf => by cases hf), Lib.hid (fun hf => by cases hf), Lib.hid (fun hf => by cases hf), Lib.hid (fun hf => by cases hf), Lib.hid (fun hf => by cases hf), Lib.hid (fun hf => by cases hf), Lib.hid (fun hf => by cases hf), Lib.hid (fun hf => by cases hf), Lib.hid (fun hf => by cases hf), Lib.hid (fun hf => by cases hf), Lib.hid (fun hf => by cases hf), Lib.hid (fun hf => by cases hf), Lib.hid ⟨fun _ => rfl, fun _ => rfl⟩, Lib.hid (fun hf => by cases hf), Lib.hid (fun hf => by cases hf), Lib.hid (fun hf => by cases hf), Lib.hid (fun hf => by cases hf), Lib.hid (fun hf => by cases hf), Lib.hid (fun hf => by cases hf), Lib.hid (fun hf => by cases hf), Lib.hid (fun hf => by cases hf), Lib.hid (fun hf => by cases hf), Lib.hid (fun hf => by cases hf), Lib.hid (fun hf => by cases hf), Lib.hid (fun _ => rfl), Lib.hid (fun _ => rfl)⟩
      · intro L A W hI i hi o ho K' hK
        have hlt := (ready_left hi).1
        have hun := (ready_left hi).2
        have haf := ready_after hi ho
        clear hi
        obtain ⟨b0, b1, b2, b3, b4, b5, b6, b7, b8, b9, b10, b11, b12, b13, v11, v12, v13, v14, v15, v16, v17, v18, v19, v20, v21, v22, v23, v3, rfl, rfl, hB, h0, h1, h2, h3, h4, h5, h6, h7, h8, h9, h10, h11, h13, p, u4_1, u3_2, u4_3, u5_4, u10_5, u8_6, u8_7, u9_8, u10_9, u11_10, w13, r13, x0_13⟩ := hI
        have hc : i = 0 ∨ i = 1 ∨ i = 2 ∨ i = 3 ∨ i = 4 ∨ i = 5 ∨ i = 6 ∨ i = 7 ∨ i = 8 ∨ i = 9 ∨ i = 10 ∨ i = 11 ∨ i = 12 ∨ i = 13 := by
          simp at hlt
          omega
        rcases hc with rfl | rfl | rfl | rfl | rfl | rfl | rfl | rfl | rfl | rfl | rfl | rfl | rfl | rfl
        all_goals (obtain rfl := Option.some.inj ho; clear ho; simp [Region.binds] at haf hun; (try simp only [List.getElem_toArray, List.getElem_cons_zero, List.getElem_cons_succ]); simp only [Act.put, List.setIfInBounds_toArray, List.set_cons_zero, List.set_cons_succ])
        · -- operation 0
          replace hK := Lib.hid hK
          have hlast : b12 = false := p.out.1 hun
          subst hlast
          obtain ⟨Wp, hB, hWp⟩ := hB
          have hWq : W = Wp := by simpa using hWp
          clear hWp
          subst hWq
          have qq := HC.out W hB
          obtain ⟨q0, q1, q2, q3⟩ := qq
          have qo := HO2.out W hB
          have qs : w.heap.size ≤ W.heap.size := Nat.le_trans hle hB.size
          have hrd : lv = v3 := (r13.out (x0_13.out hun)).symm
          subst hrd
          subst hun
          go_simp
          exact hK.out _ _ ⟨true, b1, b2, b3, b4, b5, b6, b7, b8, b9, b10, b11, false, b13, lv, v12, v13, v14, v15, v16, v17, v18, v19, v20, v21, v22, v23, lv, rfl, (by simp only [Act.put, List.setIfInBounds_toArray, List.set_cons_zero, List.set_cons_succ]), ⟨_, hB, by simp⟩, Lib.hid (fun _ => rfl), h1, h2, h3, h4, h5, h6, h7, h8, h9, h10, h11, h13, Lib.hid ⟨(fun hf => by cases hf), (fun _ => rfl)⟩, u4_1, u3_2, u4_3, u5_4, u10_5, u8_6, u8_7, u9_8, u10_9, u11_10, w13, r13, Lib.hid (fun hf => by cases hf)⟩
        · -- operation 1
          replace hK := Lib.hid hK
          have hmid0 : b4 = false := by cases hb : b4 with | false => rfl | true => exact absurd (show true = false from (u4_1.out hb).symm.trans hun) (by decide)
          have hmid1 : b5 = false := by cases hb : b5 with | false => rfl | true => exact absurd (show true = false from (u5_4.out hb).symm.trans hmid0) (by decide)
          have hmid2 : b10 = false := by cases hb : b10 with | false => rfl | true => exact absurd (show true = false from (u10_5.out hb).symm.trans hmid1) (by decide)
          have hmid3 : b11 = false := by cases hb : b11 with | false => rfl | true => exact absurd (show true = false from (u11_10.out hb).symm.trans hmid2) (by decide)
          have hlast : b12 = false := p.out.2 hmid3
          clear hmid0 hmid1 hmid2 hmid3
          subst hlast
          obtain ⟨Wp, hB, hWp⟩ := hB
          have hWq : W = Wp := by simpa using hWp
          clear hWp
          subst hWq
          have qq := HC.out W hB
          obtain ⟨q0, q1, q2, q3⟩ := qq
          have qo := HO2.out W hB
          have qs : w.heap.size ≤ W.heap.size := Nat.le_trans hle hB.size
          subst hun
          go_simp
          exact hK.out _ _ ⟨b0, true, b2, b3, b4, b5, b6, b7, b8, b9, b10, b11, false, b13, v11, .slice (some ⟨g, 0, none⟩) N cap, v13, v14, v15, v16, v17, v18, v19, v20, v21, v22, v23, v3, rfl, (by simp only [Act.put, List.setIfInBounds_toArray, List.set_cons_zero, List.set_cons_succ]), ⟨_, hB, by simp⟩, h0, Lib.hid (fun _ => rfl), h2, h3, h4, h5, h6, h7, h8, h9, h10, h11, h13, Lib.hid ⟨(fun _ => rfl), (fun _ => rfl)⟩, Lib.hid (fun _ => rfl), u3_2, u4_3, u5_4, u10_5, u8_6, u8_7, u9_8, u10_9, u11_10, w13, r13, x0_13⟩
        · -- operation 2
          replace hK := Lib.hid hK
          have hmid0 : b3 = false := by cases hb : b3 with | false => rfl | true => exact absurd (show true = false from (u3_2.out hb).symm.trans hun) (by decide)
          have hmid1 : b4 = false := by cases hb : b4 with | false => rfl | true => exact absurd (show true = false from (u4_3.out hb).symm.trans hmid0) (by decide)
          have hmid2 : b5 = false := by cases hb : b5 with | false => rfl | true => exact absurd (show true = false from (u5_4.out hb).symm.trans hmid1) (by decide)
          have hmid3 : b10 = false := by cases hb : b10 with | false => rfl | true => exact absurd (show true = false from (u10_5.out hb).symm.trans hmid2) (by decide)
          have hmid4 : b11 = false := by cases hb : b11 with | false => rfl | true => exact absurd (show true = false from (u11_10.out hb).symm.trans hmid3) (by decide)
          have hlast : b12 = false := p.out.2 hmid4
          clear hmid0 hmid1 hmid2 hmid3 hmid4
          subst hlast
          obtain ⟨Wp, hB, hWp⟩ := hB
          have hWq : W = Wp := by simpa using hWp
          clear hWp
          subst hWq
          have qq := HC.out W hB
          obtain ⟨q0, q1, q2, q3⟩ := qq
          have qo := HO2.out W hB
          have qs : w.heap.size ≤ W.heap.size := Nat.le_trans hle hB.size
          subst hun
          go_simp
          exact hK.out _ _ ⟨b0, b1, true, b3, b4, b5, b6, b7, b8, b9, b10, b11, false, b13, v11, v12, .int .i64 (i : Int), v14, v15, v16, v17, v18, v19, v20, v21, v22, v23, v3, rfl, (by simp only [Act.put, List.setIfInBounds_toArray, List.set_cons_zero, List.set_cons_succ]), ⟨_, hB, by simp⟩, h0, h1, Lib.hid (fun _ => rfl), h3, h4, h5, h6, h7, h8, h9, h10, h11, h13, Lib.hid ⟨(fun _ => rfl), (fun _ => rfl)⟩, u4_1, Lib.hid (fun _ => rfl), u4_3, u5_4, u10_5, u8_6, u8_7, u9_8, u10_9, u11_10, w13, r13, x0_13⟩
        · -- operation 3
          replace hK := Lib.hid hK
          have hmid0 : b4 = false := by cases hb : b4 with | false => rfl | true => exact absurd (show true = false from (u4_3.out hb).symm.trans hun) (by decide)
          have hmid1 : b5 = false := by cases hb : b5 with | false => rfl | true => exact absurd (show true = false from (u5_4.out hb).symm.trans hmid0) (by decide)
          have hmid2 : b10 = false := by cases hb : b10 with | false => rfl | true => exact absurd (show true = false from (u10_5.out hb).symm.trans hmid1) (by decide)
          have hmid3 : b11 = false := by cases hb : b11 with | false => rfl | true => exact absurd (show true = false from (u11_10.out hb).symm.trans hmid2) (by decide)
          have hlast : b12 = false := p.out.2 hmid3
          clear hmid0 hmid1 hmid2 hmid3
          subst hlast
          obtain ⟨Wp, hB, hWp⟩ := hB
          have hWq : W = Wp := by simpa using hWp
          clear hWp
          subst hWq
          have qq := HC.out W hB
          obtain ⟨q0, q1, q2, q3⟩ := qq
          have qo := HO2.out W hB
          have qs : w.heap.size ≤ W.heap.size := Nat.le_trans hle hB.size
          obtain rfl := (h2.out (by simp only [haf])).symm
          subst hun
          go_simp
          exact hK.out _ _ ⟨b0, b1, b2, true, b4, b5, b6, b7, b8, b9, b10, b11, false, b13, v11, v12, .int .i64 (i : Int), .int .i64 (j : Int), v15, v16, v17, v18, v19, v20, v21, v22, v23, v3, rfl, (by simp only [Act.put, List.setIfInBounds_toArray, List.set_cons_zero, List.set_cons_succ]), ⟨_, hB, by simp⟩, h0, h1, Lib.hid (fun _ => rfl), Lib.hid (fun _ => rfl), h4, h5, h6, h7, h8, h9, h10, h11, h13, Lib.hid ⟨(fun _ => rfl), (fun _ => rfl)⟩, u4_1, Lib.hid (fun _ => (by simp only [haf])), Lib.hid (fun _ => rfl), u5_4, u10_5, u8_6, u8_7, u9_8, u10_9, u11_10, w13, r13, x0_13⟩
        · -- operation 4
          replace hK := Lib.hid hK
          have hmid0 : b5 = false := by cases hb : b5 with | false => rfl | true => exact absurd (show true = false from (u5_4.out hb).symm.trans hun) (by decide)
          have hmid1 : b10 = false := by cases hb : b10 with | false => rfl | true => exact absurd (show true = false from (u10_5.out hb).symm.trans hmid0) (by decide)
          have hmid2 : b11 = false := by cases hb : b11 with | false => rfl | true => exact absurd (show true = false from (u11_10.out hb).symm.trans hmid1) (by decide)
          have hlast : b12 = false := p.out.2 hmid2
          clear hmid0 hmid1 hmid2
          subst hlast
          obtain ⟨Wp, hB, hWp⟩ := hB
          have hWq : W = Wp := by simpa using hWp
          clear hWp
          subst hWq
          have qq := HC.out W hB
          obtain ⟨q0, q1, q2, q3⟩ := qq
          have qo := HO2.out W hB
          have qs : w.heap.size ≤ W.heap.size := Nat.le_trans hle hB.size
          obtain rfl := (h1.out (by simp only [haf])).symm
          obtain rfl := (h3.out (by simp only [haf])).symm
          subst hun
          go_simp
          exact hK.out _ _ ⟨b0, b1, b2, b3, true, b5, b6, b7, b8, b9, b10, b11, false, b13, v11, .slice (some ⟨g, 0, none⟩) N cap, v13, .int .i64 (j : Int), .pointer (some ⟨g, j * 2, none⟩), v16, v17, v18, v19, v20, v21, v22, v23, v3, rfl, (by simp only [Act.put, List.setIfInBounds_toArray, List.set_cons_zero, List.set_cons_succ]), ⟨_, hB, by simp⟩, h0, Lib.hid (fun _ => rfl), h2, Lib.hid (fun _ => rfl), Lib.hid (fun _ => rfl), h5, h6, h7, h8, h9, h10, h11, h13, Lib.hid ⟨(fun _ => rfl), (fun _ => rfl)⟩, Lib.hid (fun _ => (by simp only [haf])), u3_2, Lib.hid (fun _ => (by simp only [haf])), Lib.hid (fun _ => rfl), u10_5, u8_6, u8_7, u9_8, u10_9, u11_10, w13, r13, x0_13⟩
        · -- operation 5
          replace hK := Lib.hid hK
          have hmid0 : b10 = false := by cases hb : b10 with | false => rfl | true => exact absurd (show true = false from (u10_5.out hb).symm.trans hun) (by decide)
          have hmid1 : b11 = false := by cases hb : b11 with | false => rfl | true => exact absurd (show true = false from (u11_10.out hb).symm.trans hmid0) (by decide)
          have hlast : b12 = false := p.out.2 hmid1
          clear hmid0 hmid1
          subst hlast
          obtain ⟨Wp, hB, hWp⟩ := hB
          have hWq : W = Wp := by simpa using hWp
          clear hWp
          subst hWq
          have qq := HC.out W hB
          obtain ⟨q0, q1, q2, q3⟩ := qq
          have qo := HO2.out W hB
          have qs : w.heap.size ≤ W.heap.size := Nat.le_trans hle hB.size
          obtain rfl := (h4.out (by simp only [haf])).symm
          subst hun
          go_simp
          exact hK.out _ _ ⟨b0, b1, b2, b3, b4, true, b6, b7, b8, b9, b10, b11, false, b13, v11, v12, v13, v14, .pointer (some ⟨g, j * 2, none⟩), .agg #[.int .i64 ax, .int .i64 ay], v17, v18, v19, v20, v21, v22, v23, v3, rfl, (by simp only [Act.put, List.setIfInBounds_toArray, List.set_cons_zero, List.set_cons_succ]), ⟨_, hB, by simp⟩, h0, h1, h2, h3, Lib.hid (fun _ => rfl), Lib.hid (fun _ => rfl), h6, h7, h8, h9, h10, h11, h13, Lib.hid ⟨(fun _ => rfl), (fun _ => rfl)⟩, u4_1, u3_2, u4_3, Lib.hid (fun _ => (by simp only [haf])), Lib.hid (fun _ => rfl), u8_6, u8_7, u9_8, u10_9, u11_10, w13, r13, x0_13⟩
        · -- operation 6
          replace hK := Lib.hid hK
          have hmid0 : b8 = false := by cases hb : b8 with | false => rfl | true => exact absurd (show true = false from (u8_6.out hb).symm.trans hun) (by decide)
          have hmid1 : b9 = false := by cases hb : b9 with | false => rfl | true => exact absurd (show true = false from (u9_8.out hb).symm.trans hmid0) (by decide)
          have hmid2 : b10 = false := by cases hb : b10 with | false => rfl | true => exact absurd (show true = false from (u10_9.out hb).symm.trans hmid1) (by decide)
          have hmid3 : b11 = false := by cases hb : b11 with | false => rfl | true => exact absurd (show true = false from (u11_10.out hb).symm.trans hmid2) (by decide)
          have hlast : b12 = false := p.out.2 hmid3
          clear hmid0 hmid1 hmid2 hmid3
          subst hlast
          obtain ⟨Wp, hB, hWp⟩ := hB
          have hWq : W = Wp := by simpa using hWp
          clear hWp
          subst hWq
          have qq := HC.out W hB
          obtain ⟨q0, q1, q2, q3⟩ := qq
          have qo := HO2.out W hB
          have qs : w.heap.size ≤ W.heap.size := Nat.le_trans hle hB.size
          subst hun
          go_simp
          exact hK.out _ _ ⟨b0, b1, b2, b3, b4, b5, true, b7, b8, b9, b10, b11, false, b13, v11, v12, v13, v14, v15, v16, .slice (some ⟨g, 0, none⟩) N cap, v18, v19, v20, v21, v22, v23, v3, rfl, (by simp only [Act.put, List.setIfInBounds_toArray, List.set_cons_zero, List.set_cons_succ]), ⟨_, hB, by simp⟩, h0, h1, h2, h3, h4, h5, Lib.hid (fun _ => rfl), h7, h8, h9, h10, h11, h13, Lib.hid ⟨(fun _ => rfl), (fun _ => rfl)⟩, u4_1, u3_2, u4_3, u5_4, u10_5, Lib.hid (fun _ => rfl), u8_7, u9_8, u10_9, u11_10, w13, r13, x0_13⟩
        · -- operation 7
          replace hK := Lib.hid hK
          have hmid0 : b8 = false := by cases hb : b8 with | false => rfl | true => exact absurd (show true = false from (u8_7.out hb).symm.trans hun) (by decide)
          have hmid1 : b9 = false := by cases hb : b9 with | false => rfl | true => exact absurd (show true = false from (u9_8.out hb).symm.trans hmid0) (by decide)
          have hmid2 : b10 = false := by cases hb : b10 with | false => rfl | true => exact absurd (show true = false from (u10_9.out hb).symm.trans hmid1) (by decide)
          have hmid3 : b11 = false := by cases hb : b11 with | false => rfl | true => exact absurd (show true = false from (u11_10.out hb).symm.trans hmid2) (by decide)
          have hlast : b12 = false := p.out.2 hmid3
          clear hmid0 hmid1 hmid2 hmid3
          subst hlast
          obtain ⟨Wp, hB, hWp⟩ := hB
          have hWq : W = Wp := by simpa using hWp
          clear hWp
          subst hWq
          have qq := HC.out W hB
          obtain ⟨q0, q1, q2, q3⟩ := qq
          have qo := HO2.out W hB
          have qs : w.heap.size ≤ W.heap.size := Nat.le_trans hle hB.size
          subst hun
          go_simp
          exact hK.out _ _ ⟨b0, b1, b2, b3, b4, b5, b6, true, b8, b9, b10, b11, false, b13, v11, v12, v13, v14, v15, v16, v17, .int .i64 (i : Int), v19, v20, v21, v22, v23, v3, rfl, (by simp only [Act.put, List.setIfInBounds_toArray, List.set_cons_zero, List.set_cons_succ]), ⟨_, hB, by simp⟩, h0, h1, h2, h3, h4, h5, h6, Lib.hid (fun _ => rfl), h8, h9, h10, h11, h13, Lib.hid ⟨(fun _ => rfl), (fun _ => rfl)⟩, u4_1, u3_2, u4_3, u5_4, u10_5, u8_6, Lib.hid (fun _ => rfl), u9_8, u10_9, u11_10, w13, r13, x0_13⟩
        · -- operation 8
          replace hK := Lib.hid hK
          have hmid0 : b9 = false := by cases hb : b9 with | false => rfl | true => exact absurd (show true = false from (u9_8.out hb).symm.trans hun) (by decide)
          have hmid1 : b10 = false := by cases hb : b10 with | false => rfl | true => exact absurd (show true = false from (u10_9.out hb).symm.trans hmid0) (by decide)
          have hmid2 : b11 = false := by cases hb : b11 with | false => rfl | true => exact absurd (show true = false from (u11_10.out hb).symm.trans hmid1) (by decide)
          have hlast : b12 = false := p.out.2 hmid2
          clear hmid0 hmid1 hmid2
          subst hlast
          obtain ⟨Wp, hB, hWp⟩ := hB
          have hWq : W = Wp := by simpa using hWp
          clear hWp
          subst hWq
          have qq := HC.out W hB
          obtain ⟨q0, q1, q2, q3⟩ := qq
          have qo := HO2.out W hB
          have qs : w.heap.size ≤ W.heap.size := Nat.le_trans hle hB.size
          obtain rfl := (h6.out (by simp only [haf])).symm
          obtain rfl := (h7.out (by simp only [haf])).symm
          subst hun
          go_simp
          exact hK.out _ _ ⟨b0, b1, b2, b3, b4, b5, b6, b7, true, b9, b10, b11, false, b13, v11, v12, v13, v14, v15, v16, .slice (some ⟨g, 0, none⟩) N cap, .int .i64 (i : Int), .pointer (some ⟨g, i * 2, none⟩), v20, v21, v22, v23, v3, rfl, (by simp only [Act.put, List.setIfInBounds_toArray, List.set_cons_zero, List.set_cons_succ]), ⟨_, hB, by simp⟩, h0, h1, h2, h3, h4, h5, Lib.hid (fun _ => rfl), Lib.hid (fun _ => rfl), Lib.hid (fun _ => rfl), h9, h10, h11, h13, Lib.hid ⟨(fun _ => rfl), (fun _ => rfl)⟩, u4_1, u3_2, u4_3, u5_4, u10_5, Lib.hid (fun _ => (by simp only [haf])), Lib.hid (fun _ => (by simp only [haf])), Lib.hid (fun _ => rfl), u10_9, u11_10, w13, r13, x0_13⟩
        · -- operation 9
          replace hK := Lib.hid hK
          have hmid0 : b10 = false := by cases hb : b10 with | false => rfl | true => exact absurd (show true = false from (u10_9.out hb).symm.trans hun) (by decide)
          have hmid1 : b11 = false := by cases hb : b11 with | false => rfl | true => exact absurd (show true = false from (u11_10.out hb).symm.trans hmid0) (by decide)
          have hlast : b12 = false := p.out.2 hmid1
          clear hmid0 hmid1
          subst hlast
          obtain ⟨Wp, hB, hWp⟩ := hB
          have hWq : W = Wp := by simpa using hWp
          clear hWp
          subst hWq
          have qq := HC.out W hB
          obtain ⟨q0, q1, q2, q3⟩ := qq
          have qo := HO2.out W hB
          have qs : w.heap.size ≤ W.heap.size := Nat.le_trans hle hB.size
          obtain rfl := (h8.out (by simp only [haf])).symm
          subst hun
          go_simp
          exact hK.out _ _ ⟨b0, b1, b2, b3, b4, b5, b6, b7, b8, true, b10, b11, false, b13, v11, v12, v13, v14, v15, v16, v17, v18, .pointer (some ⟨g, i * 2, none⟩), .agg #[.int .i64 bx, .int .i64 b_y], v21, v22, v23, v3, rfl, (by simp only [Act.put, List.setIfInBounds_toArray, List.set_cons_zero, List.set_cons_succ]), ⟨_, hB, by simp⟩, h0, h1, h2, h3, h4, h5, h6, h7, Lib.hid (fun _ => rfl), Lib.hid (fun _ => rfl), h10, h11, h13, Lib.hid ⟨(fun _ => rfl), (fun _ => rfl)⟩, u4_1, u3_2, u4_3, u5_4, u10_5, u8_6, u8_7, Lib.hid (fun _ => (by simp only [haf])), Lib.hid (fun _ => rfl), u11_10, w13, r13, x0_13⟩
        · -- operation 10
          replace hK := Lib.hid hK
          have hmid0 : b11 = false := by cases hb : b11 with | false => rfl | true => exact absurd (show true = false from (u11_10.out hb).symm.trans hun) (by decide)
          have hlast : b12 = false := p.out.2 hmid0
          clear hmid0
          subst hlast
          obtain ⟨Wp, hB, hWp⟩ := hB
          have hWq : W = Wp := by simpa using hWp
          clear hWp
          subst hWq
          have qq := HC.out W hB
          obtain ⟨q0, q1, q2, q3⟩ := qq
          have qo := HO2.out W hB
          have qs : w.heap.size ≤ W.heap.size := Nat.le_trans hle hB.size
          obtain rfl := (h5.out (by simp only [haf])).symm
          obtain rfl := (h9.out (by simp only [haf])).symm
          subst hun
          go_simp
          refine (CB.out W).mono ?_
          rintro e W' ⟨rfl, hb⟩
          have hkept := fun kb (hk : kb < W.heap.size) => hb.block kb hk
          exact hK.out _ _ ⟨b0, b1, b2, b3, b4, b5, b6, b7, b8, b9, true, b11, false, b13, v11, v12, v13, v14, v15, .agg #[.int .i64 ax, .int .i64 ay], v17, v18, v19, .agg #[.int .i64 bx, .int .i64 b_y], .int .i64 z, v22, v23, v3, rfl, (by simp only [Act.put, List.setIfInBounds_toArray, List.set_cons_zero, List.set_cons_succ]), ⟨_, hB.trans (hb.mono hB.size), by simp⟩, h0, h1, h2, h3, h4, Lib.hid (fun _ => rfl), h6, h7, h8, Lib.hid (fun _ => rfl), Lib.hid (fun _ => rfl), Lib.hid (fun hx hu => by obtain ⟨mb, e1, fx⟩ := h11.out hx hu; exact ⟨mb, e1, cell_kept hb fx⟩), h13, Lib.hid ⟨(fun _ => rfl), (fun _ => rfl)⟩, u4_1, u3_2, u4_3, u5_4, Lib.hid (fun _ => (by simp only [haf])), u8_6, u8_7, u9_8, Lib.hid (fun _ => (by simp only [haf])), Lib.hid (fun _ => rfl), w13, r13, x0_13⟩
        · -- operation 11
          replace hK := Lib.hid hK
          have hlast : b12 = false := p.out.2 hun
          subst hlast
          obtain ⟨Wp, hB, hWp⟩ := hB
          have hWq : W = Wp := by simpa using hWp
          clear hWp
          subst hWq
          have qq := HC.out W hB
          obtain ⟨q0, q1, q2, q3⟩ := qq
          have qo := HO2.out W hB
          have qs : w.heap.size ≤ W.heap.size := Nat.le_trans hle hB.size
          obtain rfl := (h10.out (by simp only [haf])).symm
          subst hun
          go_simp
          have hb := Joins.below_alloc1 W (.cells #[.int .i64 z] 2)
          have hnew : (W.alloc (.cells #[.int .i64 z] 2)).cell? ⟨W.heap.size, 0, none⟩ = some (.int .i64 z) := by rw [World.cell?_alloc_mark]; rfl
          obtain ⟨mb, hmb⟩ : ∃ m, W.heap.size = m := ⟨_, rfl⟩
          rw [hmb] at hnew ⊢
          have hkept := fun kb (hk : kb < W.heap.size) => hb.block kb hk
          exact hK.out _ _ ⟨b0, b1, b2, b3, b4, b5, b6, b7, b8, b9, b10, true, false, b13, v11, v12, v13, v14, v15, v16, v17, v18, v19, v20, .int .i64 z, .slice (some ⟨mb, 0, none⟩) 1 1, v23, v3, rfl, (by simp only [Act.put, List.setIfInBounds_toArray, List.set_cons_zero, List.set_cons_succ]), ⟨_, hB.trans (hb.mono hB.size), by simp⟩, h0, h1, h2, h3, h4, h5, h6, h7, h8, h9, Lib.hid (fun _ => rfl), Lib.hid (fun _ _ => ⟨mb, rfl, hnew⟩), h13, Lib.hid ⟨(fun _ => rfl), (fun hf => by cases hf)⟩, u4_1, u3_2, u4_3, u5_4, u10_5, u8_6, u8_7, u9_8, u10_9, Lib.hid (fun _ => (by simp only [haf])), w13, r13, x0_13⟩
        · -- operation 12
          replace hK := Lib.hid hK
          subst hun
          obtain ⟨Wp, hB, hWp⟩ := hB
          have hWq : W = Wp := by simpa using hWp
          clear hWp
          subst hWq
          have qq := HC.out W hB
          obtain ⟨q0, q1, q2, q3⟩ := qq
          have qo := HO2.out W hB
          have qs : w.heap.size ≤ W.heap.size := Nat.le_trans hle hB.size
          obtain rfl := (h0.out (by simp only [haf])).symm
          obtain ⟨mb, rfl, fmb⟩ := h11.out (by simp only [haf]) (by first | exact hun | simp only [haf])
          rw [if_pos (by simp [Region.wanted])]
          refine wp_append_own W _ _ 39 rfl w.heap.size 2 i0 (.int .i64 0) 1 8 Tryd.underlying39 hi0 hz0 hz1 hz2 rfl (by decide) lv j JV rfl qo ⟨mb, 0, none⟩ 1 1 [.int .i64 z] rfl rfl (news_one fmb) (fun u hu => by simp at hu; subst hu; rfl) (by unfold maxLen; omega) (by omega) qs ?_
          intro v' w' hown' hgr _
          have hset := And.intro hown' hgr
          exact hK.out _ _ ⟨b0, b1, b2, b3, b4, b5, b6, b7, b8, b9, b10, b11, true, b13, lv, v12, v13, v14, v15, v16, v17, v18, v19, v20, v21, .slice (some ⟨mb, 0, none⟩) 1 1, v', v3, rfl, (by simp only [Act.put, List.setIfInBounds_toArray, List.set_cons_zero, List.set_cons_succ]), ⟨_, hB, by rw [if_pos rfl]; exact hset⟩, Lib.hid (fun _ => rfl), h1, h2, h3, h4, h5, h6, h7, h8, h9, h10, Lib.hid (fun _ hu => by cases hu), Lib.hid (fun hx => absurd (w13.out hx) (by decide)), Lib.hid ⟨(fun hf => absurd (show false = true from hf.symm.trans (by simp only [haf])) (by decide)), (fun hf => absurd (show false = true from hf.symm.trans (by simp only [haf])) (by decide))⟩, u4_1, u3_2, u4_3, u5_4, u10_5, u8_6, u8_7, u9_8, u10_9, u11_10, Lib.hid (fun _ => rfl), r13, x0_13⟩
        · -- operation 13
          replace hK := Lib.hid hK
          subst hun
          go_simp
          exact hK.out _ _ ⟨b0, b1, b2, b3, b4, b5, b6, b7, b8, b9, b10, b11, b12, true, v11, v12, v13, v14, v15, v16, v17, v18, v19, v20, v21, v22, v23, v23, rfl, (by simp only [Act.put, List.setIfInBounds_toArray, List.set_cons_zero, List.set_cons_succ]), hB, h0, h1, h2, h3, h4, h5, h6, h7, h8, h9, h10, h11, Lib.hid (fun _ => rfl), p, u4_1, u3_2, u4_3, u5_4, u10_5, u8_6, u8_7, u9_8, u10_9, u11_10, Lib.hid (fun _ => (by simp only [haf])), Lib.hid (fun hf => by cases hf), Lib.hid (fun hf => absurd (show false = true from hf.symm.trans (by simp only [haf])) (by decide))⟩
      intro L A W hI hr
      obtain ⟨b0, b1, b2, b3, b4, b5, b6, b7, b8, b9, b10, b11, b12, b13, v11, v12, v13, v14, v15, v16, v17, v18, v19, v20, v21, v22, v23, v3, rfl, rfl, hB, h0, h1, h2, h3, h4, h5, h6, h7, h8, h9, h10, h11, h13, p, u4_1, u3_2, u4_3, u5_4, u10_5, u8_6, u8_7, u9_8, u10_9, u11_10, w13, r13, x0_13⟩ := hI
      have d0 := ready_done hr 0 _ rfl (by simp [Region.binds])
      have d1 := ready_done hr 1 _ rfl (by simp [Region.binds])
      have d2 := ready_done hr 2 _ rfl (by simp [Region.binds])
      have d6 := ready_done hr 6 _ rfl (by simp [Region.binds])
      have d7 := ready_done hr 7 _ rfl (by simp [Region.binds])
      simp at d0 d1 d2 d6 d7
      subst d0 d1 d2 d6 d7
      have d3 := ready_done hr 3 _ rfl (by simp [Region.binds])
      have d8 := ready_done hr 8 _ rfl (by simp [Region.binds])
      simp at d3 d8
      subst d3 d8
      have d4 := ready_done hr 4 _ rfl (by simp [Region.binds])
      have d9 := ready_done hr 9 _ rfl (by simp [Region.binds])
      simp at d4 d9
      subst d4 d9
      have d5 := ready_done hr 5 _ rfl (by simp [Region.binds])
      simp at d5
      subst d5
      have d10 := ready_done hr 10 _ rfl (by simp [Region.binds])
      simp at d10
      subst d10
      have d11 := ready_done hr 11 _ rfl (by simp [Region.binds])
      simp at d11
      subst d11
      have d12 := ready_done hr 12 _ rfl (by simp [Region.binds])
      simp at d12
      subst d12
      have d13 := ready_done hr 13 _ rfl (by simp [Region.binds])
      simp at d13
      subst d13
      obtain rfl := (h0.out rfl).symm
      obtain rfl := (h1.out rfl).symm
      obtain rfl := (h2.out rfl).symm
      obtain rfl := (h3.out rfl).symm
      obtain rfl := (h4.out rfl).symm
      obtain rfl := (h5.out rfl).symm
      obtain rfl := (h6.out rfl).symm
      obtain rfl := (h7.out rfl).symm
      obtain rfl := (h8.out rfl).symm
      obtain rfl := (h9.out rfl).symm
      obtain rfl := (h10.out rfl).symm
      obtain rfl := (h13.out rfl).symm
      obtain ⟨Wp, hB, hWp⟩ := hB
      rw [if_pos rfl] at hWp
      simp only [Act.put, List.setIfInBounds_toArray, List.set_cons_zero, List.set_cons_succ]
      clear hr h0 h1 h2 h3 h4 h5 h6 h7 h8 h9 h10 h11 h13 p u4_1 u3_2 u4_3 u5_4 u10_5 u8_6 u8_7 u9_8 u10_9 u11_10 w13 r13 x0_13
      obtain ⟨hown9, hgr9⟩ := hWp
      have HB9 : Hid (Below w.heap.size w W) := (HB.out.trans (hB.mono HB.out.size)).grown hgr9 (Nat.le_trans hle hB.size) (fun k hk => HOlt.out k hk)
      have HO9 : Hid (OwnN W w.heap.size v23 (jl L i)) := by
        show OwnN _ _ _ _
        unfold OwnN
        rw [HL2.out, HSn2.out]
        rw [← Hij.out] at hown9
        exact hown9
      clear hown9 hgr9 hB HC CB HO2
      go_wp2
      go_roundw
      case rel => exact ⟨_, i + 1, rfl, by omega, by omega, by go_num, by rw [show i + 1 - 1 = i from rfl]; exact HO9, HB9.out⟩
      case measure => simp [intOf]; omega
    · obtain rfl : i = N := by omega
      go_wp2_with fail
      go_ret
      exact ⟨_, rfl, HO.out, HB.out⟩
end Go.Proofs.YtabkkpifkkgpeaaDoor
