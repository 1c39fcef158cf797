/- Contracts of single functions, and plain lemmas, on which the exact laws of this seat rest; each holds under the conditions that it states. -/
import Derived.Test.YtnmnlbgialolhaaDoorRBe
import Derived.Test.YtnmnlbgialolhaaDoorRBd
import Derived.Test.YtnmnlbgialolhaaDoorGOd
import Derived.Test.YtnmnlbgialolhaaDoorGL
import Derived.Test.YtnmnlbgialolhaaDoorFI
import Derived.Test.YtnmnlbgialolhaaDoorRJ
namespace Go.Proofs.YtnmnlbgialolhaaDoor
set_option linter.unusedVariables false
set_option linter.unusedSimpArgs false
open Go.RowKit
attribute [local go_sem] Oper.semAt_some

theorem call_Mean1 (args : Array Value) (W : World) : (callFunc 66 args).run Tryd.prog W = .ok (.enter 66 args) W := by simp [go_sem]
def MeAt (W : World) (gb pb : Nat) (u : Value) (gs : List (List Int)) (v : Value) (ss : List ByteArray) : Prop := W.cell? ⟨gb, 0, none⟩ = some u ∧ W.cell? ⟨pb, 0, none⟩ = some v ∧ SlG W u gs ∧ Sl W v ss ∧ ErrLen W ∧ NoRes W
theorem MeAt.below {W W' : World} {gb pb : Nat} {u : Value} {gs : List (List Int)} {v : Value} {ss : List ByteArray} (h : MeAt W gb pb u gs v ss) (hb : Below W.heap.size W W') : MeAt W' gb pb u gs v ss :=
  ⟨cell_kept hb h.1, cell_kept hb h.2.1, h.2.2.1.below hb, h.2.2.2.1.below hb, h.2.2.2.2.1.below hb, h.2.2.2.2.2.below hb⟩

section
variable (gb pb : Nat) (u : Value) (gs : List (List Int)) (v : Value) (ss : List ByteArray) (w : World) (hN : gs.length ≤ 1048576) (hf : ∀ i, i < gs.length → (rowF gs i).length ≤ 1048576) (hL : ss.length ≤ maxLen) (hz : ∀ s ∈ ss, s.size ≤ maxLen)
include hN hf hL hz
set_option maxHeartbeats 4000000 in
set_option maxRecDepth 100000 in
theorem meanWork_mid (h : MeAt w gb pb u gs v ss) (hg : vG 99 gs = true) (hp : validB ss = true) :
    Calls Tryd.prog 66 #[.pointer (some ⟨gb, 0, none⟩), .pointer (some ⟨pb, 0, none⟩)] w (fun e w' => (if meOk gs ss = true then e = .returned (.int .i64 (meV gs ss)) else ∃ T x, e = .panicked [{ v := .iface T x, recovered := false }]) ∧ Below w.heap.size w w') := by
  have V := vg_of hg
  have VPs := vp_of hp
  have V2 := gyGs_vg VPs
  have HC : Hid (∀ W, Below w.heap.size w W → W.cell? ⟨gb, 0, none⟩ = some u ∧ W.cell? ⟨pb, 0, none⟩ = some v) := fun W hb => ⟨(h.below hb).1, (h.below hb).2.1⟩
  have CG : Hid (∀ W, Below w.heap.size w W → Calls Tryd.prog 67 #[.agg #[u]] W (fun e w' => e = .returned u ∧ Below W.heap.size W w')) := fun W hb => (requiredGrey_any u gs W hN hf (h.below hb).2.2.1 (h.below hb).2.2.2.2.2).mono fun e w' h => by
    rcases h.1 with ⟨_, h1⟩ | ⟨h1, _⟩
    · exact ⟨h1, h.2⟩
    · rw [hg] at h1; cases h1
  have CM : Hid (∀ W, Below w.heap.size w W → Calls Tryd.prog 42 #[.agg #[v]] W (fun e w' => e = .returned (.agg (matC ss)) ∧ Below W.heap.size W w')) := fun W hb => reqMat_yes v ss W hL hz (h.below hb).2.2.2.1 (h.below hb).2.2.2.2.1 hp
  have CY : Hid (∀ W, Calls Tryd.prog 54 #[.agg (matC ss)] W (fun e w' => ∃ v', e = .returned v' ∧ SlG w' v' (gyGs ss) ∧ Below W.heap.size W w')) := fun W => (greysOf_pic hp W).mono fun e w' ⟨g, c, h1, ⟨us, h2⟩, h3⟩ => ⟨_, h1, by
    have := (h2.congr fun i hi => (gyGs_row ss i hi).symm).sl
    unfold SlG
    rw [gyGs_len]
    exact this, h3⟩
  have CS1 : Hid (∀ W, SlG W u gs → Calls Tryd.prog 70 #[u] W (fun e w' => e = .returned (.int .i64 (sumG gs)) ∧ Below W.heap.size W w')) := fun W hs => sumOf_any u gs W V hs
  have CS2 : Hid (∀ x W, SlG W x (gyGs ss) → Calls Tryd.prog 70 #[x] W (fun e w' => e = .returned (.int .i64 (sumG (gyGs ss))) ∧ Below W.heap.size W w')) := fun x W hs => sumOf_any x (gyGs ss) W V2 hs
  have CZ1 : Hid (∀ W, SlG W u gs → Calls Tryd.prog 69 #[u] W (fun e w' => e = .returned (.agg (mcells (rowF gs 0).length gs.length (fun _ => 0))) ∧ Below W.heap.size W w')) := fun W hs => sizeG_any u gs W V hs
  have CZ2 : Hid (∀ x W, SlG W x (gyGs ss) → Calls Tryd.prog 69 #[x] W (fun e w' => e = .returned (.agg (mcells (row0 ss).size ss.length (fun _ => 0))) ∧ Below W.heap.size W w')) := fun x W hs => by
    have := sizeG_any x (gyGs ss) W V2 hs
    rw [gyGs_row ss 0 VPs.n1, rwF_len, gyGs_len] at this
    exact this
  have hEq := run_eql_m (rowF gs 0).length gs.length (row0 ss).size ss.length V.w16 V.n16 VPs.w16 VPs.n16
  have hbd1 : 0 ≤ sumG gs ∧ sumG gs ≤ 256 * 99 := by
    have := sumK_bd V.w1 (show ∀ y, y < gs.length → ∀ x, x < (rowF gs 0).length → 0 ≤ gF gs y x ∧ gF gs y x ≤ 99 from V.num) _ (Nat.le_refl _)
    have hm : gs.length * (rowF gs 0).length ≤ 16 * 16 := Nat.mul_le_mul V.n16 V.w16
    unfold sumG
    omega
  have hbd2 : 0 ≤ sumG (gyGs ss) ∧ sumG (gyGs ss) ≤ 256 * 99 := by
    have := sumK_bd V2.w1 (show ∀ y, y < (gyGs ss).length → ∀ x, x < (rowF (gyGs ss) 0).length → 0 ≤ gF (gyGs ss) y x ∧ gF (gyGs ss) y x ≤ 99 from V2.num) _ (Nat.le_refl _)
    have hm : (gyGs ss).length * (rowF (gyGs ss) 0).length ≤ 16 * 16 := Nat.mul_le_mul V2.n16 V2.w16
    unfold sumG
    omega
  have hokv : meOk gs ss = (decide ((rowF gs 0).length = (row0 ss).size) && decide (gs.length = ss.length)) := by unfold meOk; rw [hg, hp]; rfl
  have HVal : Hid (meOk gs ss = true → meV gs ss = sumG gs - sumG (gyGs ss)) := fun h => by unfold meV; rw [if_pos h]
  rw [hokv] at HVal ⊢
  have HU : Hid (∀ W, Below w.heap.size w W → SlG W u gs) := fun W hb => (h.below hb).2.2.1
  have HNo : Hid (∀ W, Below w.heap.size w W → NoRes W) := fun W hb => (h.below hb).2.2.2.2.2
  obtain ⟨X, hX⟩ : ∃ X, mcells ((rowF gs 0).length : Int) (gs.length : Int) (fun _ => 0) = X := ⟨_, rfl⟩
  obtain ⟨Y, hY⟩ : ∃ X, mcells ((row0 ss).size : Int) (ss.length : Int) (fun _ => 0) = X := ⟨_, rfl⟩
  rw [hX] at CZ1 hEq
  rw [hY] at CZ2 hEq
  obtain ⟨OKB, hO⟩ : ∃ z, (decide ((rowF gs 0).length = (row0 ss).size) && decide (gs.length = ss.length)) = z := ⟨_, rfl⟩
  rw [hO] at hEq HVal ⊢
  obtain ⟨C, hC⟩ : ∃ C, matC ss = C := ⟨_, rfl⟩
  rw [hC] at CM CY
  obtain ⟨G, hG⟩ : ∃ G, gyGs ss = G := ⟨_, rfl⟩
  rw [hG] at CY CS2 CZ2 HVal hbd2
  obtain ⟨s1, hs1⟩ : ∃ s, sumG gs = s := ⟨_, rfl⟩
  obtain ⟨s2, hs2⟩ : ∃ s, sumG G = s := ⟨_, rfl⟩
  rw [hs1] at CS1 HVal hbd1
  rw [hs2] at CS2 HVal hbd2
  have kw : IntKind.i64.wrap (s1 - s2) = s1 - s2 := IntWalk.i64_in _ (by omega)
  obtain ⟨MV, hMV⟩ : ∃ z, meV gs ss = z := ⟨_, rfl⟩
  rw [hMV] at HVal ⊢
  clear hg hp V VPs V2 hokv hX hY hO hC hG hs1 hs2 hMV hbd1 hbd2 h
  go_enter Tryd.func66, Tryd.ntmps66
  go_upto_region 1 with fail
  refine wp_region_inv_at (by kernel_rfl) (fun A0 L A W => ∃ (b0 b1 b2 b3 b4 b5 b6 : Bool) (v5 v6 v7 v8 v9 v3 v4 : Value), L = #[b0, b1, b2, b3, b4, b5, b6] ∧ A = (((((((A0.put (some 5) v5).put (some 6) v6).put (some 7) v7).put (some 8) v8).put (some 9) v9).put (some 3) v3).put (some 4) v4) ∧ (∃ Wp, Below w.heap.size w Wp ∧ (if b6 = true then SlG W v4 G ∧ W = Wp else W = Wp)) ∧ Hid (b0 = true → v5 = .agg #[u]) ∧ Hid (b1 = true → v6 = u) ∧ Hid (b2 = true → v7 = .agg #[v]) ∧ Hid (b3 = true → v8 = .agg C) ∧ Hid (b4 = true → b6 = false → ∃ v', v9 = v' ∧ SlG W v' G) ∧ Hid (b5 = true → v3 = u) ∧ Hid ((b0 = false → b6 = false) ∧ (b1 = false → b6 = false) ∧ (b2 = false → b6 = false) ∧ (b3 = false → b6 = false) ∧ (b4 = false → b6 = false) ∧ (b5 = false → b6 = false))) ?_ ?_ ?_
  · intro A0
    refine ⟨false, false, false, false, false, false, false, A0.tmps.getD 5 undef, A0.tmps.getD 6 undef, A0.tmps.getD 7 undef, A0.tmps.getD 8 undef, A0.tmps.getD 9 undef, A0.tmps.getD 3 undef, A0.tmps.getD 4 undef, rfl, (by simp only [put_self]), ⟨_, (Below.refl _ _).drew, (by simp)⟩, Lib.hid (fun hf => by cases hf), Lib.hid (fun hf => by cases hf), Lib.hid (fun hf => by cases hf), Lib.hid (fun hf => by cases hf), Lib.hid (fun hf => by cases hf), Lib.hid (fun hf => by cases hf), Lib.hid ⟨fun _ => rfl, fun _ => rfl, fun _ => rfl, fun _ => rfl, fun _ => rfl, fun _ => rfl⟩⟩
  · intro L A W hI i hi o ho K' hK
    have hlt := (ready_left hi).1
    have hun := (ready_left hi).2
    have haf := ready_after hi ho
    clear hi
    obtain ⟨b0, b1, b2, b3, b4, b5, b6, v5, v6, v7, v8, v9, v3, v4, rfl, rfl, hB, h0, h1, h2, h3, h4, h5, p⟩ := hI
    have hc : i = 0 ∨ i = 1 ∨ i = 2 ∨ i = 3 ∨ i = 4 ∨ i = 5 ∨ i = 6 := by
      simp at hlt
      omega
    rcases hc with rfl | rfl | rfl | rfl | rfl | rfl | rfl
    all_goals (obtain rfl := Option.some.inj ho; clear ho; simp [Region.binds] at haf hun; (try simp only [List.getElem_toArray, List.getElem_cons_zero, List.getElem_cons_succ]); simp only [Act.put, List.setIfInBounds_toArray, List.set_cons_zero, List.set_cons_succ])
    · -- operation 0
      replace hK := Lib.hid hK
      have hlast : b6 = false := p.out.1 hun
      subst hlast
      obtain ⟨Wp, hB, hWp⟩ := hB
      have hWq : W = Wp := by simpa using hWp
      clear hWp
      subst hWq
      have q0 := (HC.out W hB).1
      have q1 := (HC.out W hB).2
      subst hun
      go_simp
      exact hK.out _ _ ⟨true, b1, b2, b3, b4, b5, false, .agg #[u], v6, v7, v8, v9, v3, v4, rfl, (by simp only [Act.put, List.setIfInBounds_toArray, List.set_cons_zero, List.set_cons_succ]), ⟨_, hB, by simp⟩, Lib.hid (fun _ => rfl), h1, h2, h3, h4, h5, Lib.hid ⟨(fun hf => by cases hf), (fun _ => rfl), (fun _ => rfl), (fun _ => rfl), (fun _ => rfl), (fun _ => rfl)⟩⟩
    · -- operation 1
      replace hK := Lib.hid hK
      have hlast : b6 = false := p.out.2.1 hun
      subst hlast
      obtain ⟨Wp, hB, hWp⟩ := hB
      have hWq : W = Wp := by simpa using hWp
      clear hWp
      subst hWq
      have q0 := (HC.out W hB).1
      have q1 := (HC.out W hB).2
      obtain rfl := (h0.out (by simp only [haf])).symm
      subst hun
      go_simp
      refine (CG.out W hB).mono ?_
      rintro e W' ⟨rfl, hb⟩
      have hkept := fun kb (hk : kb < W.heap.size) => hb.block kb hk
      exact hK.out _ _ ⟨b0, true, b2, b3, b4, b5, false, .agg #[u], u, v7, v8, v9, v3, v4, rfl, (by simp only [Act.put, List.setIfInBounds_toArray, List.set_cons_zero, List.set_cons_succ]), ⟨_, hB.trans (hb.mono hB.size), by simp⟩, Lib.hid (fun _ => rfl), Lib.hid (fun _ => rfl), h2, h3, Lib.hid (fun hx hu => by obtain ⟨v', e1, fx⟩ := h4.out hx hu; exact ⟨v', e1, SlG.below fx hb⟩), h5, Lib.hid ⟨(fun _ => rfl), (fun hf => by cases hf), (fun _ => rfl), (fun _ => rfl), (fun _ => rfl), (fun _ => rfl)⟩⟩
    · -- operation 2
      replace hK := Lib.hid hK
      have hlast : b6 = false := p.out.2.2.1 hun
      subst hlast
      obtain ⟨Wp, hB, hWp⟩ := hB
      have hWq : W = Wp := by simpa using hWp
      clear hWp
      subst hWq
      have q0 := (HC.out W hB).1
      have q1 := (HC.out W hB).2
      subst hun
      go_simp
      exact hK.out _ _ ⟨b0, b1, true, b3, b4, b5, false, v5, v6, .agg #[v], v8, v9, v3, v4, rfl, (by simp only [Act.put, List.setIfInBounds_toArray, List.set_cons_zero, List.set_cons_succ]), ⟨_, hB, by simp⟩, h0, h1, Lib.hid (fun _ => rfl), h3, h4, h5, Lib.hid ⟨(fun _ => rfl), (fun _ => rfl), (fun hf => by cases hf), (fun _ => rfl), (fun _ => rfl), (fun _ => rfl)⟩⟩
    · -- operation 3
      replace hK := Lib.hid hK
      have hlast : b6 = false := p.out.2.2.2.1 hun
      subst hlast
      obtain ⟨Wp, hB, hWp⟩ := hB
      have hWq : W = Wp := by simpa using hWp
      clear hWp
      subst hWq
      have q0 := (HC.out W hB).1
      have q1 := (HC.out W hB).2
      obtain rfl := (h2.out (by simp only [haf])).symm
      subst hun
      go_simp
      refine (CM.out W hB).mono ?_
      rintro e W' ⟨rfl, hb⟩
      have hkept := fun kb (hk : kb < W.heap.size) => hb.block kb hk
      exact hK.out _ _ ⟨b0, b1, b2, true, b4, b5, false, v5, v6, .agg #[v], .agg C, v9, v3, v4, rfl, (by simp only [Act.put, List.setIfInBounds_toArray, List.set_cons_zero, List.set_cons_succ]), ⟨_, hB.trans (hb.mono hB.size), by simp⟩, h0, h1, Lib.hid (fun _ => rfl), Lib.hid (fun _ => rfl), Lib.hid (fun hx hu => by obtain ⟨v', e1, fx⟩ := h4.out hx hu; exact ⟨v', e1, SlG.below fx hb⟩), h5, Lib.hid ⟨(fun _ => rfl), (fun _ => rfl), (fun _ => rfl), (fun hf => by cases hf), (fun _ => rfl), (fun _ => rfl)⟩⟩
    · -- operation 4
      replace hK := Lib.hid hK
      have hlast : b6 = false := p.out.2.2.2.2.1 hun
      subst hlast
      obtain ⟨Wp, hB, hWp⟩ := hB
      have hWq : W = Wp := by simpa using hWp
      clear hWp
      subst hWq
      have q0 := (HC.out W hB).1
      have q1 := (HC.out W hB).2
      obtain rfl := (h3.out (by simp only [haf])).symm
      subst hun
      go_simp
      refine (CY.out W).mono ?_
      rintro e W' ⟨v', rfl, fo, hb⟩
      have hkept := fun kb (hk : kb < W.heap.size) => hb.block kb hk
      exact hK.out _ _ ⟨b0, b1, b2, b3, true, b5, false, v5, v6, v7, .agg C, v', v3, v4, rfl, (by simp only [Act.put, List.setIfInBounds_toArray, List.set_cons_zero, List.set_cons_succ]), ⟨_, hB.trans (hb.mono hB.size), by simp⟩, h0, h1, h2, Lib.hid (fun _ => rfl), Lib.hid (fun _ _ => ⟨v', rfl, fo⟩), h5, Lib.hid ⟨(fun _ => rfl), (fun _ => rfl), (fun _ => rfl), (fun _ => rfl), (fun hf => by cases hf), (fun _ => rfl)⟩⟩
    · -- operation 5
      replace hK := Lib.hid hK
      have hlast : b6 = false := p.out.2.2.2.2.2 hun
      subst hlast
      obtain ⟨Wp, hB, hWp⟩ := hB
      have hWq : W = Wp := by simpa using hWp
      clear hWp
      subst hWq
      have q0 := (HC.out W hB).1
      have q1 := (HC.out W hB).2
      obtain rfl := (h1.out (by simp only [haf])).symm
      subst hun
      go_simp
      exact hK.out _ _ ⟨b0, b1, b2, b3, b4, true, false, v5, u, v7, v8, v9, u, v4, rfl, (by simp only [Act.put, List.setIfInBounds_toArray, List.set_cons_zero, List.set_cons_succ]), ⟨_, hB, by simp⟩, h0, Lib.hid (fun _ => rfl), h2, h3, h4, Lib.hid (fun _ => rfl), Lib.hid ⟨(fun _ => rfl), (fun _ => rfl), (fun _ => rfl), (fun _ => rfl), (fun _ => rfl), (fun hf => by cases hf)⟩⟩
    · -- operation 6
      replace hK := Lib.hid hK
      subst hun
      obtain ⟨Wp, hB, hWp⟩ := hB
      have hWq : W = Wp := by simpa using hWp
      clear hWp
      subst hWq
      have q0 := (HC.out W hB).1
      have q1 := (HC.out W hB).2
      obtain ⟨v', rfl, fo⟩ := h4.out (by simp only [haf]) (by first | exact hun | simp only [haf])
      obtain ⟨v', hv'⟩ : ∃ z, z = v9 := ⟨_, rfl⟩
      subst hv'
      go_simp
      have hset := And.intro fo (rfl : W = W)
      exact hK.out _ _ ⟨b0, b1, b2, b3, b4, b5, true, v5, v6, v7, v8, v', v3, v', rfl, (by simp only [Act.put, List.setIfInBounds_toArray, List.set_cons_zero, List.set_cons_succ]), ⟨_, hB, by rw [if_pos rfl]; exact hset⟩, h0, h1, h2, h3, Lib.hid (fun _ hu => by cases hu), h5, Lib.hid ⟨(fun hf => absurd (show false = true from hf.symm.trans (by simp only [haf])) (by decide)), (fun hf => absurd (show false = true from hf.symm.trans (by simp only [haf])) (by decide)), (fun hf => absurd (show false = true from hf.symm.trans (by simp only [haf])) (by decide)), (fun hf => absurd (show false = true from hf.symm.trans (by simp only [haf])) (by decide)), (fun hf => absurd (show false = true from hf.symm.trans (by simp only [haf])) (by decide)), (fun hf => absurd (show false = true from hf.symm.trans (by simp only [haf])) (by decide))⟩⟩
  intro L A W hI hr
  obtain ⟨b0, b1, b2, b3, b4, b5, b6, v5, v6, v7, v8, v9, v3, v4, rfl, rfl, hB, h0, h1, h2, h3, h4, h5, p⟩ := hI
  have d0 := ready_done hr 0 _ rfl (by simp [Region.binds])
  simp at d0
  subst d0
  have d1 := ready_done hr 1 _ rfl (by simp [Region.binds])
  simp at d1
  subst d1
  have d2 := ready_done hr 2 _ rfl (by simp [Region.binds])
  simp at d2
  subst d2
  have d3 := ready_done hr 3 _ rfl (by simp [Region.binds])
  simp at d3
  subst d3
  have d4 := ready_done hr 4 _ rfl (by simp [Region.binds])
  simp at d4
  subst d4
  have d5 := ready_done hr 5 _ rfl (by simp [Region.binds])
  simp at d5
  subst d5
  have d6 := ready_done hr 6 _ rfl (by simp [Region.binds])
  simp at d6
  subst d6
  obtain rfl := (h0.out rfl).symm
  obtain rfl := (h1.out rfl).symm
  obtain rfl := (h2.out rfl).symm
  obtain rfl := (h3.out rfl).symm
  obtain rfl := (h5.out rfl).symm
  obtain ⟨Wp, hB, hWp⟩ := hB
  rw [if_pos rfl] at hWp
  simp only [Act.put, List.setIfInBounds_toArray, List.set_cons_zero, List.set_cons_succ]
  clear hr h0 h1 h2 h3 h4 h5 p
  obtain ⟨hsl, rfl⟩ := hWp
  obtain ⟨b9, hb9⟩ : ∃ z, z = v4 := ⟨_, rfl⟩
  have HB1 := Lib.hid hB
  have HS1 := Lib.hid hsl
  clear hB hsl
  go_wp2_with fail
  refine (CZ1.out _ (HU.out _ HB1.out)).mono ?_
  rintro e w2 ⟨rfl, hb2⟩
  have HB2 := Lib.hid (HB1.out.trans (hb2.mono HB1.out.size))
  have HS2 := Lib.hid (HS1.out.below hb2)
  clear hb2 HB1 HS1
  go_wp2_with fail
  refine (CZ2.out _ _ HS2.out).mono ?_
  rintro e w3 ⟨rfl, hb3⟩
  have HB3 := Lib.hid (HB2.out.trans (hb3.mono HB2.out.size))
  have HS3 := Lib.hid (HS2.out.below hb3)
  clear hb3 HB2 HS2
  cases OKB with
  | false =>
    go_wp2_with fail
    refine (require_no _ (HNo.out _ HB3.out)).mono ?_
    rintro e w4 ⟨T, x, rfl, rfl⟩
    go_wp2
    exact ⟨rfl, by first | exact ⟨T, x, rfl⟩ | (rw [if_neg (by decide)]; exact ⟨T, x, rfl⟩), HB3.out⟩
  | true =>
    go_wp2_with fail
    refine (require_yes _).mono ?_
    rintro e w4 ⟨rfl, hw4⟩
    obtain rfl := hw4.symm
    go_wp2_with fail
    refine (CS1.out _ (HU.out _ HB3.out)).mono ?_
    rintro e w5 ⟨rfl, hb5⟩
    have HB5 := Lib.hid (HB3.out.trans (hb5.mono HB3.out.size))
    have HS5 := Lib.hid (HS3.out.below hb5)
    clear hb5 HB3 HS3
    go_wp2_with fail
    refine (CS2.out _ _ HS5.out).mono ?_
    rintro e w6 ⟨rfl, hb6⟩
    have HB6 := Lib.hid (HB5.out.trans (hb6.mono HB5.out.size))
    clear hb6 HB5 HS5
    go_wp2_with fail
    go_ret
    exact ⟨by first | (rw [HVal.out trivial]; rfl) | (rw [if_pos rfl, HVal.out rfl]; rfl), HB6.out⟩

set_option maxHeartbeats 4000000 in
set_option maxRecDepth 100000 in
theorem meanWork_out (h : MeAt w gb pb u gs v ss) (hno : ¬ (vG 99 gs = true ∧ validB ss = true)) :
    Calls Tryd.prog 66 #[.pointer (some ⟨gb, 0, none⟩), .pointer (some ⟨pb, 0, none⟩)] w (fun e w' => (∃ T x, e = .panicked [{ v := .iface T x, recovered := false }]) ∧ Below w.heap.size w w') := by
  have HC : Hid (∀ W, Below w.heap.size w W → W.cell? ⟨gb, 0, none⟩ = some u ∧ W.cell? ⟨pb, 0, none⟩ = some v) := fun W hb => ⟨(h.below hb).1, (h.below hb).2.1⟩
  have cg := fun W (hb : Below w.heap.size w W) => requiredGrey_any u gs W hN hf (h.below hb).2.2.1 (h.below hb).2.2.2.2.2
  obtain ⟨C, hC⟩ : ∃ C, matC ss = C := ⟨_, rfl⟩
  obtain ⟨G, hG⟩ : ∃ G, gyGs ss = G := ⟨_, rfl⟩
  cases hg : vG 99 gs with
  | false =>
    have CG : Hid (∀ W, Below w.heap.size w W → Calls Tryd.prog 67 #[.agg #[u]] W (fun e w' => (∃ T x, e = .panicked [{ v := .iface T x, recovered := false }]) ∧ Below W.heap.size W w')) := fun W hb => (cg W hb).mono fun e w' h => by
      rcases h.1 with ⟨h1, _⟩ | ⟨_, h1⟩
      · rw [hg] at h1; cases h1
      · exact ⟨h1, h.2⟩
    cases hp : validB ss with
    | true =>
      have CM : Hid (∀ W, Below w.heap.size w W → Calls Tryd.prog 42 #[.agg #[v]] W (fun e w' => e = .returned (.agg (matC ss)) ∧ Below W.heap.size W w')) := fun W hb => reqMat_yes v ss W hL hz (h.below hb).2.2.2.1 (h.below hb).2.2.2.2.1 hp
      have CY : Hid (∀ W, Calls Tryd.prog 54 #[.agg (matC ss)] W (fun e w' => ∃ v', e = .returned v' ∧ SlG w' v' (gyGs ss) ∧ Below W.heap.size W w')) := fun W => (greysOf_pic hp W).mono fun e w' ⟨g, c, h1, ⟨us, h2⟩, h3⟩ => ⟨_, h1, by
        have := (h2.congr fun i hi => (gyGs_row ss i hi).symm).sl
        unfold SlG
        rw [gyGs_len]
        exact this, h3⟩
      rw [hC] at CM CY
      rw [hG] at CY
      clear hg hp hno h cg hC hG
      go_enter Tryd.func66, Tryd.ntmps66
      go_upto_region 1 with fail
      refine wp_region_inv_at (by kernel_rfl) (fun A0 L A W => ∃ (b0 b1 b2 b3 b4 b5 b6 : Bool) (v5 v6 v7 v8 v9 v3 v4 : Value), L = #[b0, b1, b2, b3, b4, b5, b6] ∧ A = (((((((A0.put (some 5) v5).put (some 6) v6).put (some 7) v7).put (some 8) v8).put (some 9) v9).put (some 3) v3).put (some 4) v4) ∧ (∃ Wp, Below w.heap.size w Wp ∧ (if b6 = true then SlG W v4 G ∧ W = Wp else W = Wp)) ∧ Hid (b0 = true → v5 = .agg #[u]) ∧ Hid (b1 = true → False) ∧ Hid (b2 = true → v7 = .agg #[v]) ∧ Hid (b3 = true → v8 = .agg C) ∧ Hid (b4 = true → b6 = false → ∃ v', v9 = v' ∧ SlG W v' G) ∧ Hid (b5 = true → v3 = u) ∧ Hid ((b0 = false → b6 = false) ∧ (b1 = false → b6 = false) ∧ (b2 = false → b6 = false) ∧ (b3 = false → b6 = false) ∧ (b4 = false → b6 = false) ∧ (b5 = false → b6 = false))) ?_ ?_ ?_
      · intro A0
        refine ⟨false, false, false, false, false, false, false, A0.tmps.getD 5 undef, A0.tmps.getD 6 undef, A0.tmps.getD 7 undef, A0.tmps.getD 8 undef, A0.tmps.getD 9 undef, A0.tmps.getD 3 undef, A0.tmps.getD 4 undef, rfl, (by simp only [put_self]), ⟨_, (Below.refl _ _).drew, (by simp)⟩, Lib.hid (fun hf => by cases hf), Lib.hid (fun hf => by cases hf), Lib.hid (fun hf => by cases hf), Lib.hid (fun hf => by cases hf), Lib.hid (fun hf => by cases hf), Lib.hid (fun hf => by cases hf), Lib.hid ⟨fun _ => rfl, fun _ => rfl, fun _ => rfl, fun _ => rfl, fun _ => rfl, fun _ => rfl⟩⟩
      · intro L A W hI i hi o ho K' hK
        have hlt := (ready_left hi).1
        have hun := (ready_left hi).2
        have haf := ready_after hi ho
        clear hi
        obtain ⟨b0, b1, b2, b3, b4, b5, b6, v5, v6, v7, v8, v9, v3, v4, rfl, rfl, hB, h0, h1, h2, h3, h4, h5, p⟩ := hI
        have hc : i = 0 ∨ i = 1 ∨ i = 2 ∨ i = 3 ∨ i = 4 ∨ i = 5 ∨ i = 6 := by
          simp at hlt
          omega
        rcases hc with rfl | rfl | rfl | rfl | rfl | rfl | rfl
        all_goals (obtain rfl := Option.some.inj ho; clear ho; simp [Region.binds] at haf hun; (try simp only [List.getElem_toArray, List.getElem_cons_zero, List.getElem_cons_succ]); simp only [Act.put, List.setIfInBounds_toArray, List.set_cons_zero, List.set_cons_succ])
        · -- operation 0
          replace hK := Lib.hid hK
          have hlast : b6 = false := p.out.1 hun
          subst hlast
          obtain ⟨Wp, hB, hWp⟩ := hB
          have hWq : W = Wp := by simpa using hWp
          clear hWp
          subst hWq
          have q0 := (HC.out W hB).1
          have q1 := (HC.out W hB).2
          subst hun
          go_simp
          exact hK.out _ _ ⟨true, b1, b2, b3, b4, b5, false, .agg #[u], v6, v7, v8, v9, v3, v4, rfl, (by simp only [Act.put, List.setIfInBounds_toArray, List.set_cons_zero, List.set_cons_succ]), ⟨_, hB, by simp⟩, Lib.hid (fun _ => rfl), h1, h2, h3, h4, h5, Lib.hid ⟨(fun hf => by cases hf), (fun _ => rfl), (fun _ => rfl), (fun _ => rfl), (fun _ => rfl), (fun _ => rfl)⟩⟩
        · -- operation 1
          replace hK := Lib.hid hK
          have hlast : b6 = false := p.out.2.1 hun
          subst hlast
          obtain ⟨Wp, hB, hWp⟩ := hB
          have hWq : W = Wp := by simpa using hWp
          clear hWp
          subst hWq
          have q0 := (HC.out W hB).1
          have q1 := (HC.out W hB).2
          obtain rfl := (h0.out (by simp only [haf])).symm
          subst hun
          go_simp
          refine (CG.out W hB).mono ?_
          rintro e W' ⟨⟨T, x, rfl⟩, hb⟩
          exact ⟨rfl, ⟨T, x, rfl⟩, hB.trans (hb.mono hB.size)⟩
        · -- operation 2
          replace hK := Lib.hid hK
          have hlast : b6 = false := p.out.2.2.1 hun
          subst hlast
          obtain ⟨Wp, hB, hWp⟩ := hB
          have hWq : W = Wp := by simpa using hWp
          clear hWp
          subst hWq
          have q0 := (HC.out W hB).1
          have q1 := (HC.out W hB).2
          subst hun
          go_simp
          exact hK.out _ _ ⟨b0, b1, true, b3, b4, b5, false, v5, v6, .agg #[v], v8, v9, v3, v4, rfl, (by simp only [Act.put, List.setIfInBounds_toArray, List.set_cons_zero, List.set_cons_succ]), ⟨_, hB, by simp⟩, h0, h1, Lib.hid (fun _ => rfl), h3, h4, h5, Lib.hid ⟨(fun _ => rfl), (fun _ => rfl), (fun hf => by cases hf), (fun _ => rfl), (fun _ => rfl), (fun _ => rfl)⟩⟩
        · -- operation 3
          replace hK := Lib.hid hK
          have hlast : b6 = false := p.out.2.2.2.1 hun
          subst hlast
          obtain ⟨Wp, hB, hWp⟩ := hB
          have hWq : W = Wp := by simpa using hWp
          clear hWp
          subst hWq
          have q0 := (HC.out W hB).1
          have q1 := (HC.out W hB).2
          obtain rfl := (h2.out (by simp only [haf])).symm
          subst hun
          go_simp
          refine (CM.out W hB).mono ?_
          rintro e W' ⟨rfl, hb⟩
          have hkept := fun kb (hk : kb < W.heap.size) => hb.block kb hk
          exact hK.out _ _ ⟨b0, b1, b2, true, b4, b5, false, v5, v6, .agg #[v], .agg C, v9, v3, v4, rfl, (by simp only [Act.put, List.setIfInBounds_toArray, List.set_cons_zero, List.set_cons_succ]), ⟨_, hB.trans (hb.mono hB.size), by simp⟩, h0, h1, Lib.hid (fun _ => rfl), Lib.hid (fun _ => rfl), Lib.hid (fun hx hu => by obtain ⟨v', e1, fx⟩ := h4.out hx hu; exact ⟨v', e1, SlG.below fx hb⟩), h5, Lib.hid ⟨(fun _ => rfl), (fun _ => rfl), (fun _ => rfl), (fun hf => by cases hf), (fun _ => rfl), (fun _ => rfl)⟩⟩
        · -- operation 4
          replace hK := Lib.hid hK
          have hlast : b6 = false := p.out.2.2.2.2.1 hun
          subst hlast
          obtain ⟨Wp, hB, hWp⟩ := hB
          have hWq : W = Wp := by simpa using hWp
          clear hWp
          subst hWq
          have q0 := (HC.out W hB).1
          have q1 := (HC.out W hB).2
          obtain rfl := (h3.out (by simp only [haf])).symm
          subst hun
          go_simp
          refine (CY.out W).mono ?_
          rintro e W' ⟨v', rfl, fo, hb⟩
          have hkept := fun kb (hk : kb < W.heap.size) => hb.block kb hk
          exact hK.out _ _ ⟨b0, b1, b2, b3, true, b5, false, v5, v6, v7, .agg C, v', v3, v4, rfl, (by simp only [Act.put, List.setIfInBounds_toArray, List.set_cons_zero, List.set_cons_succ]), ⟨_, hB.trans (hb.mono hB.size), by simp⟩, h0, h1, h2, Lib.hid (fun _ => rfl), Lib.hid (fun _ _ => ⟨v', rfl, fo⟩), h5, Lib.hid ⟨(fun _ => rfl), (fun _ => rfl), (fun _ => rfl), (fun _ => rfl), (fun hf => by cases hf), (fun _ => rfl)⟩⟩
        · -- operation 5
          replace hK := Lib.hid hK
          have hlast : b6 = false := p.out.2.2.2.2.2 hun
          subst hlast
          obtain ⟨Wp, hB, hWp⟩ := hB
          have hWq : W = Wp := by simpa using hWp
          clear hWp
          subst hWq
          have q0 := (HC.out W hB).1
          have q1 := (HC.out W hB).2
          exact (h1.out (by simp only [haf])).elim
        · -- operation 6
          replace hK := Lib.hid hK
          subst hun
          obtain ⟨Wp, hB, hWp⟩ := hB
          have hWq : W = Wp := by simpa using hWp
          clear hWp
          subst hWq
          have q0 := (HC.out W hB).1
          have q1 := (HC.out W hB).2
          obtain ⟨v', rfl, fo⟩ := h4.out (by simp only [haf]) (by first | exact hun | simp only [haf])
          obtain ⟨v', hv'⟩ : ∃ z, z = v9 := ⟨_, rfl⟩
          subst hv'
          go_simp
          have hset := And.intro fo (rfl : W = W)
          exact hK.out _ _ ⟨b0, b1, b2, b3, b4, b5, true, v5, v6, v7, v8, v', v3, v', rfl, (by simp only [Act.put, List.setIfInBounds_toArray, List.set_cons_zero, List.set_cons_succ]), ⟨_, hB, by rw [if_pos rfl]; exact hset⟩, h0, h1, h2, h3, Lib.hid (fun _ hu => by cases hu), h5, Lib.hid ⟨(fun hf => absurd (show false = true from hf.symm.trans (by simp only [haf])) (by decide)), (fun hf => absurd (show false = true from hf.symm.trans (by simp only [haf])) (by decide)), (fun hf => absurd (show false = true from hf.symm.trans (by simp only [haf])) (by decide)), (fun hf => absurd (show false = true from hf.symm.trans (by simp only [haf])) (by decide)), (fun hf => absurd (show false = true from hf.symm.trans (by simp only [haf])) (by decide)), (fun hf => absurd (show false = true from hf.symm.trans (by simp only [haf])) (by decide))⟩⟩
      intro L A W hI hr
      obtain ⟨b0, b1, b2, b3, b4, b5, b6, v5, v6, v7, v8, v9, v3, v4, rfl, rfl, hB, h0, h1, h2, h3, h4, h5, p⟩ := hI
      have d0 := ready_done hr 0 _ rfl (by simp [Region.binds])
      simp at d0
      subst d0
      have d1 := ready_done hr 1 _ rfl (by simp [Region.binds])
      simp at d1
      subst d1
      exact (h1.out rfl).elim
    | false =>
      have CM : Hid (∀ W, Below w.heap.size w W → Calls Tryd.prog 42 #[.agg #[v]] W (fun e w' => (∃ T x, e = .panicked [{ v := .iface T x, recovered := false }]) ∧ Below W.heap.size W w')) := fun W hb => reqMat_no v ss W hL hz (h.below hb).2.2.2.1 (h.below hb).2.2.2.2.1 (h.below hb).2.2.2.2.2 hp
      clear hg hp hno h cg hC hG
      go_enter Tryd.func66, Tryd.ntmps66
      go_upto_region 1 with fail
      refine wp_region_inv_at (by kernel_rfl) (fun A0 L A W => ∃ (b0 b1 b2 b3 b4 b5 b6 : Bool) (v5 v6 v7 v8 v9 v3 v4 : Value), L = #[b0, b1, b2, b3, b4, b5, b6] ∧ A = (((((((A0.put (some 5) v5).put (some 6) v6).put (some 7) v7).put (some 8) v8).put (some 9) v9).put (some 3) v3).put (some 4) v4) ∧ (Below w.heap.size w W) ∧ Hid (b0 = true → v5 = .agg #[u]) ∧ Hid (b1 = true → False) ∧ Hid (b2 = true → v7 = .agg #[v]) ∧ Hid (b3 = true → False) ∧ Hid (b4 = true → v9 = .agg C) ∧ Hid (b5 = true → v3 = u) ∧ Hid (b6 = true → v4 = .agg C)) ?_ ?_ ?_
      · intro A0
        refine ⟨false, false, false, false, false, false, false, A0.tmps.getD 5 undef, A0.tmps.getD 6 undef, A0.tmps.getD 7 undef, A0.tmps.getD 8 undef, A0.tmps.getD 9 undef, A0.tmps.getD 3 undef, A0.tmps.getD 4 undef, rfl, (by simp only [put_self]), (Below.refl _ _).drew, Lib.hid (fun hf => by cases hf), Lib.hid (fun hf => by cases hf), Lib.hid (fun hf => by cases hf), Lib.hid (fun hf => by cases hf), Lib.hid (fun hf => by cases hf), Lib.hid (fun hf => by cases hf), Lib.hid (fun hf => by cases hf)⟩
      · intro L A W hI i hi o ho K' hK
        have hlt := (ready_left hi).1
        have hun := (ready_left hi).2
        have haf := ready_after hi ho
        clear hi
        obtain ⟨b0, b1, b2, b3, b4, b5, b6, v5, v6, v7, v8, v9, v3, v4, rfl, rfl, hB, h0, h1, h2, h3, h4, h5, h6⟩ := hI
        have hc : i = 0 ∨ i = 1 ∨ i = 2 ∨ i = 3 ∨ i = 4 ∨ i = 5 ∨ i = 6 := by
          simp at hlt
          omega
        have q0 := (HC.out W hB).1
        have q1 := (HC.out W hB).2
        rcases hc with rfl | rfl | rfl | rfl | rfl | rfl | rfl
        all_goals (obtain rfl := Option.some.inj ho; clear ho; simp [Region.binds] at haf hun; (try simp only [List.getElem_toArray, List.getElem_cons_zero, List.getElem_cons_succ]); simp only [Act.put, List.setIfInBounds_toArray, List.set_cons_zero, List.set_cons_succ])
        · -- operation 0
          replace hK := Lib.hid hK
          subst hun
          go_simp
          exact hK.out _ _ ⟨true, b1, b2, b3, b4, b5, b6, .agg #[u], v6, v7, v8, v9, v3, v4, rfl, (by simp only [Act.put, List.setIfInBounds_toArray, List.set_cons_zero, List.set_cons_succ]), hB, Lib.hid (fun _ => rfl), h1, h2, h3, h4, h5, h6⟩
        · -- operation 1
          replace hK := Lib.hid hK
          obtain rfl := (h0.out (by simp only [haf])).symm
          subst hun
          go_simp
          refine (CG.out W hB).mono ?_
          rintro e W' ⟨⟨T, x, rfl⟩, hb⟩
          exact ⟨rfl, ⟨T, x, rfl⟩, hB.trans (hb.mono hB.size)⟩
        · -- operation 2
          replace hK := Lib.hid hK
          subst hun
          go_simp
          exact hK.out _ _ ⟨b0, b1, true, b3, b4, b5, b6, v5, v6, .agg #[v], v8, v9, v3, v4, rfl, (by simp only [Act.put, List.setIfInBounds_toArray, List.set_cons_zero, List.set_cons_succ]), hB, h0, h1, Lib.hid (fun _ => rfl), h3, h4, h5, h6⟩
        · -- operation 3
          replace hK := Lib.hid hK
          obtain rfl := (h2.out (by simp only [haf])).symm
          subst hun
          go_simp
          refine (CM.out W hB).mono ?_
          rintro e W' ⟨⟨T, x, rfl⟩, hb⟩
          exact ⟨rfl, ⟨T, x, rfl⟩, hB.trans (hb.mono hB.size)⟩
        · -- operation 4
          replace hK := Lib.hid hK
          exact (h3.out (by simp only [haf])).elim
        · -- operation 5
          replace hK := Lib.hid hK
          exact (h1.out (by simp only [haf])).elim
        · -- operation 6
          replace hK := Lib.hid hK
          obtain rfl := (h4.out (by simp only [haf])).symm
          subst hun
          go_simp
          exact hK.out _ _ ⟨b0, b1, b2, b3, b4, b5, true, v5, v6, v7, v8, .agg C, v3, .agg C, rfl, (by simp only [Act.put, List.setIfInBounds_toArray, List.set_cons_zero, List.set_cons_succ]), hB, h0, h1, h2, h3, Lib.hid (fun _ => rfl), h5, Lib.hid (fun _ => rfl)⟩
      intro L A W hI hr
      obtain ⟨b0, b1, b2, b3, b4, b5, b6, v5, v6, v7, v8, v9, v3, v4, rfl, rfl, hB, h0, h1, h2, h3, h4, h5, h6⟩ := hI
      have d0 := ready_done hr 0 _ rfl (by simp [Region.binds])
      simp at d0
      subst d0
      have d1 := ready_done hr 1 _ rfl (by simp [Region.binds])
      simp at d1
      subst d1
      exact (h1.out rfl).elim
  | true =>
    have CG : Hid (∀ W, Below w.heap.size w W → Calls Tryd.prog 67 #[.agg #[u]] W (fun e w' => e = .returned u ∧ Below W.heap.size W w')) := fun W hb => (cg W hb).mono fun e w' h => by
      rcases h.1 with ⟨_, h1⟩ | ⟨h1, _⟩
      · exact ⟨h1, h.2⟩
      · rw [hg] at h1; cases h1
    cases hp : validB ss with
    | true => exact absurd ⟨hg, hp⟩ hno
    | false =>
      have CM : Hid (∀ W, Below w.heap.size w W → Calls Tryd.prog 42 #[.agg #[v]] W (fun e w' => (∃ T x, e = .panicked [{ v := .iface T x, recovered := false }]) ∧ Below W.heap.size W w')) := fun W hb => reqMat_no v ss W hL hz (h.below hb).2.2.2.1 (h.below hb).2.2.2.2.1 (h.below hb).2.2.2.2.2 hp
      clear hg hp hno h cg hC hG
      go_enter Tryd.func66, Tryd.ntmps66
      go_upto_region 1 with fail
      refine wp_region_inv_at (by kernel_rfl) (fun A0 L A W => ∃ (b0 b1 b2 b3 b4 b5 b6 : Bool) (v5 v6 v7 v8 v9 v3 v4 : Value), L = #[b0, b1, b2, b3, b4, b5, b6] ∧ A = (((((((A0.put (some 5) v5).put (some 6) v6).put (some 7) v7).put (some 8) v8).put (some 9) v9).put (some 3) v3).put (some 4) v4) ∧ (Below w.heap.size w W) ∧ Hid (b0 = true → v5 = .agg #[u]) ∧ Hid (b1 = true → v6 = u) ∧ Hid (b2 = true → v7 = .agg #[v]) ∧ Hid (b3 = true → False) ∧ Hid (b4 = true → v9 = .agg C) ∧ Hid (b5 = true → v3 = u) ∧ Hid (b6 = true → v4 = .agg C)) ?_ ?_ ?_
      · intro A0
        refine ⟨false, false, false, false, false, false, false, A0.tmps.getD 5 undef, A0.tmps.getD 6 undef, A0.tmps.getD 7 undef, A0.tmps.getD 8 undef, A0.tmps.getD 9 undef, A0.tmps.getD 3 undef, A0.tmps.getD 4 undef, rfl, (by simp only [put_self]), (Below.refl _ _).drew, Lib.hid (fun hf => by cases hf), Lib.hid (fun hf => by cases hf), Lib.hid (fun hf => by cases hf), Lib.hid (fun hf => by cases hf), Lib.hid (fun hf => by cases hf), Lib.hid (fun hf => by cases hf), Lib.hid (fun hf => by cases hf)⟩
      · intro L A W hI i hi o ho K' hK
        have hlt := (ready_left hi).1
        have hun := (ready_left hi).2
        have haf := ready_after hi ho
        clear hi
        obtain ⟨b0, b1, b2, b3, b4, b5, b6, v5, v6, v7, v8, v9, v3, v4, rfl, rfl, hB, h0, h1, h2, h3, h4, h5, h6⟩ := hI
        have hc : i = 0 ∨ i = 1 ∨ i = 2 ∨ i = 3 ∨ i = 4 ∨ i = 5 ∨ i = 6 := by
          simp at hlt
          omega
        have q0 := (HC.out W hB).1
        have q1 := (HC.out W hB).2
        rcases hc with rfl | rfl | rfl | rfl | rfl | rfl | rfl
        all_goals (obtain rfl := Option.some.inj ho; clear ho; simp [Region.binds] at haf hun; (try simp only [List.getElem_toArray, List.getElem_cons_zero, List.getElem_cons_succ]); simp only [Act.put, List.setIfInBounds_toArray, List.set_cons_zero, List.set_cons_succ])
        · -- operation 0
          replace hK := Lib.hid hK
          subst hun
          go_simp
          exact hK.out _ _ ⟨true, b1, b2, b3, b4, b5, b6, .agg #[u], v6, v7, v8, v9, v3, v4, rfl, (by simp only [Act.put, List.setIfInBounds_toArray, List.set_cons_zero, List.set_cons_succ]), hB, Lib.hid (fun _ => rfl), h1, h2, h3, h4, h5, h6⟩
        · -- operation 1
          replace hK := Lib.hid hK
          obtain rfl := (h0.out (by simp only [haf])).symm
          subst hun
          go_simp
          refine (CG.out W hB).mono ?_
          rintro e W' ⟨rfl, hb⟩
          have hkept := fun kb (hk : kb < W.heap.size) => hb.block kb hk
          exact hK.out _ _ ⟨b0, true, b2, b3, b4, b5, b6, .agg #[u], u, v7, v8, v9, v3, v4, rfl, (by simp only [Act.put, List.setIfInBounds_toArray, List.set_cons_zero, List.set_cons_succ]), hB.trans (hb.mono hB.size), Lib.hid (fun _ => rfl), Lib.hid (fun _ => rfl), h2, h3, h4, h5, h6⟩
        · -- operation 2
          replace hK := Lib.hid hK
          subst hun
          go_simp
          exact hK.out _ _ ⟨b0, b1, true, b3, b4, b5, b6, v5, v6, .agg #[v], v8, v9, v3, v4, rfl, (by simp only [Act.put, List.setIfInBounds_toArray, List.set_cons_zero, List.set_cons_succ]), hB, h0, h1, Lib.hid (fun _ => rfl), h3, h4, h5, h6⟩
        · -- operation 3
          replace hK := Lib.hid hK
          obtain rfl := (h2.out (by simp only [haf])).symm
          subst hun
          go_simp
          refine (CM.out W hB).mono ?_
          rintro e W' ⟨⟨T, x, rfl⟩, hb⟩
          exact ⟨rfl, ⟨T, x, rfl⟩, hB.trans (hb.mono hB.size)⟩
        · -- operation 4
          replace hK := Lib.hid hK
          exact (h3.out (by simp only [haf])).elim
        · -- operation 5
          replace hK := Lib.hid hK
          obtain rfl := (h1.out (by simp only [haf])).symm
          subst hun
          go_simp
          exact hK.out _ _ ⟨b0, b1, b2, b3, b4, true, b6, v5, u, v7, v8, v9, u, v4, rfl, (by simp only [Act.put, List.setIfInBounds_toArray, List.set_cons_zero, List.set_cons_succ]), hB, h0, Lib.hid (fun _ => rfl), h2, h3, h4, Lib.hid (fun _ => rfl), h6⟩
        · -- operation 6
          replace hK := Lib.hid hK
          obtain rfl := (h4.out (by simp only [haf])).symm
          subst hun
          go_simp
          exact hK.out _ _ ⟨b0, b1, b2, b3, b4, b5, true, v5, v6, v7, v8, .agg C, v3, .agg C, rfl, (by simp only [Act.put, List.setIfInBounds_toArray, List.set_cons_zero, List.set_cons_succ]), hB, h0, h1, h2, h3, Lib.hid (fun _ => rfl), h5, Lib.hid (fun _ => rfl)⟩
      intro L A W hI hr
      obtain ⟨b0, b1, b2, b3, b4, b5, b6, v5, v6, v7, v8, v9, v3, v4, rfl, rfl, hB, h0, h1, h2, h3, h4, h5, h6⟩ := hI
      have d0 := ready_done hr 0 _ rfl (by simp [Region.binds])
      simp at d0
      subst d0
      have d1 := ready_done hr 1 _ rfl (by simp [Region.binds])
      simp at d1
      subst d1
      have d2 := ready_done hr 2 _ rfl (by simp [Region.binds])
      simp at d2
      subst d2
      have d3 := ready_done hr 3 _ rfl (by simp [Region.binds])
      simp at d3
      subst d3
      exact (h3.out rfl).elim
end

set_option maxHeartbeats 2000000 in
set_option maxRecDepth 100000 in
theorem impl_MeanError (u : Value) (gs : List (List Int)) (v : Value) (ss : List ByteArray) (w : World) (hN : gs.length ≤ 1048576) (hf : ∀ i, i < gs.length → (rowF gs i).length ≤ 1048576) (hu : SlG w u gs) (hL : ss.length ≤ maxLen) (hz : ∀ s ∈ ss, s.size ≤ maxLen) (hv : Sl w v ss) (he : ErrLen w) (hn : NoRes w) :
    Calls Tryd.prog 27 #[.agg #[u], .agg #[v]] w (SaysIB (meV gs ss) (meOk gs ss) w) := by
  obtain ⟨W0, hW0⟩ : ∃ W0, ((w.alloc (.cells #[u] 35)).alloc (.cells #[v] 26)) = W0 := ⟨_, rfl⟩
  have b0 : Below w.heap.size w W0 := by rw [← hW0]; exact Joins.below_alloc2 _ _ _
  have hg0 : W0.heap[w.heap.size]? = some (.cells #[u] 35 (0, 0)) := by
    rw [← hW0, Below.heap_alloc _ _ _ (by simp)]; exact heap_alloc_last w _
  have hp0 : W0.heap[w.heap.size + 1]? = some (.cells #[v] 26 (0, 0)) := by
    rw [← hW0]
    exact heap_alloc2_new _ _ _
  have HF : MeAt W0 w.heap.size (w.heap.size + 1) u gs v ss := ⟨cell_of_one hg0, cell_of_one hp0, hu.below b0, hv.below b0, he.below b0, hn.below b0⟩
  have hmf : ∀ (fn : Fn) (first cap : Array Value) (w : World), (Instr.makeFunc fn first cap).run Tryd.prog w = .ok (.func fn first cap) w := fun _ _ _ _ => rfl
  have B0 := Lib.hid b0
  have HW := Lib.hid hW0
  cases hok : meOk gs ss with
  | true =>
    have hgp : vG 99 gs = true ∧ validB ss = true := by
      unfold meOk at hok
      simp only [Bool.and_eq_true] at hok
      exact ⟨hok.1, hok.2.1⟩
    have C := Lib.hid (attemptI_yes 66 #[.pointer (some ⟨w.heap.size, 0, none⟩), .pointer (some ⟨w.heap.size + 1, 0, none⟩)] W0 (fun x W w' => x = .int .i64 (meV gs ss)) call_Mean1 (fun W hb => (meanWork_mid w.heap.size (w.heap.size + 1) u gs v ss W hN hf hL hz (HF.below hb) hgp.1 hgp.2).mono (fun e w' ⟨h1, h2⟩ => by
      rw [if_pos hok] at h1
      exact ⟨_, h1, rfl, h2⟩)))
    obtain ⟨d, hd⟩ : ∃ d, meV gs ss = d := ⟨_, rfl⟩
    rw [hd] at C ⊢
    clear hn he hd hok HF b0 hg0 hp0 hW0 hu hv hN hf hL hz hgp
    go_enter Tryd.func27, Tryd.ntmps27
    go_wp2_with fail
    rw [HW.out]
    refine C.out.mono ?_
    rintro e w1 ⟨r, w2, rfl, hQ, hb, rfl, r1, r2⟩
    obtain rfl : r = d := by injection hQ
    have hs := B0.out.size
    have HB := Lib.hid (((B0.out.trans (hb.mono hs)).setCell (p := ⟨W0.heap.size, 0, none⟩) hs (.int .i64 r)).setCell (p := ⟨W0.heap.size + 1, 0, none⟩) (by show w.heap.size ≤ W0.heap.size + 1; omega) (.bool true))
    clear hQ hb r1 r2
    go_wp2_with fail
    go_ret2
    exact ⟨rfl, HB.out⟩
  | false =>
    have C := Lib.hid (attemptI_no 66 #[.pointer (some ⟨w.heap.size, 0, none⟩), .pointer (some ⟨w.heap.size + 1, 0, none⟩)] W0 call_Mean1 (fun W hb => by
      by_cases hgp : vG 99 gs = true ∧ validB ss = true
      · exact (meanWork_mid w.heap.size (w.heap.size + 1) u gs v ss W hN hf hL hz (HF.below hb) hgp.1 hgp.2).mono (fun e w' ⟨h1, h2⟩ => by
          rw [if_neg (by rw [hok]; decide)] at h1
          exact ⟨h1, h2⟩)
      · exact meanWork_out w.heap.size (w.heap.size + 1) u gs v ss W hN hf hL hz (HF.below hb) hgp))
    have HV := Lib.hid (meV_no hok)
    rw [HV.out]
    clear hn he hok HF b0 hg0 hp0 hW0 hu hv hN hf hL hz
    go_enter Tryd.func27, Tryd.ntmps27
    go_wp2_with fail
    rw [HW.out]
    refine C.out.mono ?_
    rintro e w1 ⟨rfl, hb⟩
    have HB := Lib.hid (B0.out.trans (hb.mono B0.out.size))
    clear hb
    go_wp2_with fail
    go_ret2
    exact ⟨rfl, HB.out⟩
end Go.Proofs.YtnmnlbgialolhaaDoor
