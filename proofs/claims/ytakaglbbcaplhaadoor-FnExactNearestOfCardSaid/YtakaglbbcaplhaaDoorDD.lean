/- Contracts of single functions, and plain lemmas, on which the exact laws of this seat rest; each holds under the conditions that it states. -/
import Derived.Test.YtakaglbbcaplhaaDoorDC
import Derived.Test.YtakaglbbcaplhaaDoorRI
import Derived.BigRegion
namespace Go.Proofs.YtakaglbbcaplhaaDoor
set_option linter.unusedVariables false
set_option linter.unusedSimpArgs false
open Go.RowKit
attribute [local go_sem] Oper.semAt_some

def ptr0 (b : Nat) : Value := .pointer (some ⟨b, 0, none⟩)
def NrI (W1 : World) (pp pk ps rb : Nat) (v : Value) (M : Array Value) (k : Int) (L : Array Bool) (A : Act) (W : World) : Prop :=
  ∃ (b0 b1 b2 b3 b4 b5 b6 b7 : Bool) (v4 v5 v6 v7 v8 v9 : Value), L = #[b0, b1, b2, b3, b4, b5, b6, b7] ∧
    A = ⟨#[.pointer (some ⟨pp, 0, none⟩), .pointer (some ⟨pk, 0, none⟩), .pointer (some ⟨ps, 0, none⟩), .pointer (some ⟨rb, 0, none⟩), v4, v5, v6, v7, v8, v9, undef, undef, undef, undef, undef, undef, undef, undef, undef, undef, undef], []⟩ ∧
    Below W1.heap.size W1 W ∧ (b0 = true → v6 = .agg #[v]) ∧ (b1 = true → v7 = .agg M) ∧ (b2 = true → v8 = .int .i64 k) ∧ (b3 = true → v9 = .int .i64 k) ∧
    (b4 = true → ∃ mb, v4 = .pointer (some ⟨mb, 0, none⟩) ∧ W1.heap.size ≤ mb ∧ W.heap[mb]? = some (.cells (if b6 then M else zeros) 73 (0, 0))) ∧
    (b5 = true → ∃ kb, v5 = .pointer (some ⟨kb, 0, none⟩) ∧ W1.heap.size ≤ kb ∧ W.heap[kb]? = some (.cells #[.int .i64 (if b7 then k else 0)] 112 (0, 0))) ∧ ((b4 = false → b6 = false) ∧ (b5 = false → b7 = false))

set_option maxHeartbeats 4000000 in
set_option maxRecDepth 100000 in
theorem nearWork_yes (pp pk ps : Nat) (v : Value) (ss : List ByteArray) (k x y : Int) (w : World) (hN : ss.length ≤ maxLen) (hz : ∀ s ∈ ss, s.size ≤ maxLen) (hp : w.cell? ⟨pp, 0, none⟩ = some v) (hk : w.cell? ⟨pk, 0, none⟩ = some (.int .i64 k)) (hs : Var2 w ps (x, y)) (hv : Sl w v ss) (he : ErrLen w) (hok : neOk ss k x y = true) :
    Calls Tryd.prog 104 #[.pointer (some ⟨pp, 0, none⟩), .pointer (some ⟨pk, 0, none⟩), .pointer (some ⟨ps, 0, none⟩)] w fun e w' => e = .returned (.agg #[.int .i64 (nrL k x y (bl ss)).1.1, .int .i64 (nrL k x y (bl ss)).1.2]) ∧ Below w.heap.size w w' := by
  have ho := hok
  unfold neOk someBl askB at ho
  simp only [Bool.and_eq_true, decide_eq_true_eq] at ho
  obtain ⟨⟨⟨hval, hkin⟩, hbl⟩, hins⟩ := ho
  have C1 : Hid (∀ W, Below w.heap.size w W → Calls Tryd.prog 105 #[.agg #[v]] W (fun e w' => e = .returned (.agg (matC ss)) ∧ Below W.heap.size W w')) := fun W hb => reqBlack_yes v ss W hN hz (hv.below hb) (he.below hb) hval hbl
  have C2 := Lib.hid (fun W => reqKind_yes k W hkin)
  have CH : Hid (∀ W, Calls Tryd.prog 106 #[.agg (matC ss), .int .i64 x, .int .i64 y] W (SaysB true W)) := fun W => by
    have := has_any (matC ss) (row0 ss).size ss.length (fun j => ((wordsOf ss j : Nat) : Int)) x y W ⟨matC_yes hval⟩
    rwa [hasB_insB, hins] at this
  have CBl : Hid (∀ W, Calls Tryd.prog 108 #[.agg (matC ss)] W (fun e w' => ∃ ao n cap, e = .returned (.slice ao n cap) ∧ OwnS w' W.heap.size (.slice ao n cap) (bl ss) ∧ Below W.heap.size W w')) := fun W => blacks_any ss W hval
  have V := vp_of hval
  have hsm := ins_small V.w16 V.n16 hins
  have CM : Hid (∀ A B v W, SlS W v (bl ss) → W.cell? ⟨A, 0, none⟩ = some (.int .i64 k) → Var2 W B (x, y) → Calls Tryd.prog 107 #[v, .func (.func 109) #[] #[.pointer (some ⟨A, 0, none⟩), .pointer (some ⟨B, 0, none⟩)]] W fun e w' => e = .returned (.agg #[.int .i64 (nrL k x y (bl ss)).1.1, .int .i64 (nrL k x y (bl ss)).1.2]) ∧ Below W.heap.size W w') := fun A B v W h1 h2 h3 => by
    have := minFunc_any A B k x y v (bl ss) W (by have := bl_len ss hval; omega) hbl h1 (bl_small ss hval) h2 h3 hsm
    rwa [show (nrL k x y (bl ss)).1 = mnL (fun q => farI k x y q.1 q.2) (bl ss) from by rw [nrL_mnL k x y (fun q => farI_nonneg k x y q.1 q.2) (bl ss) (fun h => by rw [h] at hbl; exact absurd hbl (by simp))]]
  obtain ⟨⟨r1, r2⟩, hr12⟩ : ∃ r, (nrL k x y (bl ss)).1 = r := ⟨_, rfl⟩
  rw [hr12] at CM ⊢
  have hA0 := Joins.below_alloc1 w (.cells #[.int .i64 0, .int .i64 0] 31)
  obtain ⟨W1, hW1⟩ : ∃ W1, w.alloc (.cells #[.int .i64 0, .int .i64 0] 31) = W1 := ⟨_, rfl⟩
  have hr1 : Var2 W1 w.heap.size (0, 0) := by show _ = _; rw [← hW1]; exact heap_alloc_last w _
  rw [hW1] at hA0
  have HF : Hid (∀ W, Below W1.heap.size W1 W → W.cell? ⟨pp, 0, none⟩ = some v ∧ W.cell? ⟨pk, 0, none⟩ = some (.int .i64 k)) := fun W hb => ⟨cell_kept hb (cell_kept hA0 hp), cell_kept hb (cell_kept hA0 hk)⟩
  have hsz := matC_size ss
  have hone := matC_one ss
  obtain ⟨M, hM⟩ : ∃ M, matC ss = M := ⟨_, rfl⟩
  rw [hM] at C1 CH CBl hsz hone
  have HI : Hid ((Tryd.prog.info? 73).map (·.size) = some M.size) := by show _ = _; rw [hsz]; exact infoM
  have HZ := Lib.hid (zeros_size.trans hsz.symm)
  have HO := Lib.hid hone
  have HW := Lib.hid hW1
  have HA := Lib.hid hA0
  have HR1 := Lib.hid hr1
  have HS1 := Lib.hid (hs.below hA0)
  clear hW1 hA0 hM hsz hone hr1 hs hp hk hv he hok hval hkin hbl hins hsm V hr12
  go_enter Tryd.func104, Tryd.ntmps104
  go_wp2_with fail
  rw [HW.out]
  refine wp_region_inv (by kernel_rfl) (NrI W1 pp pk ps w.heap.size v M k) ?_ ?_ ?_
  · refine ⟨false, false, false, false, false, false, false, false, undef, undef, undef, undef, undef, undef, rfl, rfl, (Below.refl _ _).drew, ?_, ?_, ?_, ?_, ?_, ?_, ⟨fun _ => rfl, fun _ => rfl⟩⟩ <;> (intro h; cases h)
  · intro L A W hI i hi o ho K' hK
    have hlt := (ready_left hi).1
    have hun := (ready_left hi).2
    have haf := ready_after hi ho
    clear hi
    obtain ⟨b0, b1, b2, b3, b4, b5, b6, b7, v4, v5, v6, v7, v8, v9, rfl, rfl, hB, h0, h1, h2, h3, h4, h5, h6⟩ := hI
    have hc : i = 0 ∨ i = 1 ∨ i = 2 ∨ i = 3 ∨ i = 4 ∨ i = 5 ∨ i = 6 ∨ i = 7 := by
      simp at hlt
      omega
    have f0 := (HF.out W hB).1
    have f1 := (HF.out W hB).2
    rcases hc with rfl | rfl | rfl | rfl | rfl | rfl | rfl | rfl
    all_goals (obtain rfl := Option.some.inj ho; clear ho; simp [Region.binds] at haf hun)
    · subst hun
      go_simp
      refine hK _ _ ⟨true, b1, b2, b3, b4, b5, b6, b7, _, _, _, _, _, _, rfl, rfl, hB, fun _ => rfl, (by first | exact h1 | exact fun _ => rfl), (by first | exact h2 | exact fun _ => rfl), (by first | exact h3 | exact fun _ => rfl), h4, h5, h6⟩
    · obtain rfl := h0 haf
      subst hun
      go_simp
      refine (C1.out _ (HA.out.trans (hB.mono HA.out.size))).mono ?_
      rintro e W' ⟨rfl, hb⟩
      refine hK _ _ ⟨b0, true, b2, b3, b4, b5, b6, b7, _, _, _, _, _, _, rfl, rfl, hB.trans (hb.mono hB.size), (by first | exact h0 | exact fun _ => rfl), fun _ => rfl, (by first | exact h2 | exact fun _ => rfl), (by first | exact h3 | exact fun _ => rfl), fun h => ?_, fun h => ?_, h6⟩
      · obtain ⟨mb, e1, e2, e3⟩ := h4 h
        exact ⟨mb, e1, e2, (hb.block _ (Array.getElem?_eq_some_iff.1 e3).1).trans e3⟩
      · obtain ⟨mb, e1, e2, e3⟩ := h5 h
        exact ⟨mb, e1, e2, (hb.block _ (Array.getElem?_eq_some_iff.1 e3).1).trans e3⟩
    · subst hun
      go_simp
      refine hK _ _ ⟨b0, b1, true, b3, b4, b5, b6, b7, _, _, _, _, _, _, rfl, rfl, hB, (by first | exact h0 | exact fun _ => rfl), (by first | exact h1 | exact fun _ => rfl), fun _ => rfl, (by first | exact h3 | exact fun _ => rfl), h4, h5, h6⟩
    · obtain rfl := h2 haf.1
      subst hun
      go_simp
      refine (C2.out _).mono ?_
      rintro e W' ⟨rfl, rfl⟩
      refine hK _ _ ⟨b0, b1, b2, true, b4, b5, b6, b7, _, _, _, _, _, _, rfl, rfl, hB, (by first | exact h0 | exact fun _ => rfl), (by first | exact h1 | exact fun _ => rfl), (by first | exact h2 | exact fun _ => rfl), fun _ => rfl, h4, h5, h6⟩
    · subst hun
      have hb6 : b6 = false := h6.1 rfl
      subst hb6
      go_simp
      refine hK _ _ ⟨b0, b1, b2, b3, true, b5, false, b7, _, _, _, _, _, _, rfl, rfl, hB.alloc hB.size _, (by first | exact h0 | exact fun _ => rfl), (by first | exact h1 | exact fun _ => rfl), (by first | exact h2 | exact fun _ => rfl), (by first | exact h3 | exact fun _ => rfl), fun _ => ⟨_, rfl, hB.size, ?_⟩, fun h => ?_, ⟨fun h => (by cases h), h6.2⟩⟩
      · exact heap_alloc_last W _
      · obtain ⟨mb, e1, e2, e3⟩ := h5 h
        exact ⟨mb, e1, e2, (Below.heap_alloc _ _ _ (Array.getElem?_eq_some_iff.1 e3).1).trans e3⟩
    · subst hun
      have hb7 : b7 = false := h6.2 rfl
      subst hb7
      go_simp
      refine hK _ _ ⟨b0, b1, b2, b3, b4, true, b6, false, _, _, _, _, _, _, rfl, rfl, hB.alloc hB.size _, (by first | exact h0 | exact fun _ => rfl), (by first | exact h1 | exact fun _ => rfl), (by first | exact h2 | exact fun _ => rfl), (by first | exact h3 | exact fun _ => rfl), fun h => ?_, fun _ => ⟨_, rfl, hB.size, ?_⟩, ⟨h6.1, fun h => (by cases h)⟩⟩
      · obtain ⟨mb, e1, e2, e3⟩ := h4 h
        exact ⟨mb, e1, e2, (Below.heap_alloc _ _ _ (Array.getElem?_eq_some_iff.1 e3).1).trans e3⟩
      · exact heap_alloc_last W _
    · obtain rfl := h1 haf.2.1
      obtain ⟨mb, rfl, hmb, hm2⟩ := h4 haf.1
      have hb4 := haf.1
      subst hun
      rw [if_pos (by simp [Region.wanted])]
      refine wp_store_row 73 _ _ rfl mb M rfl rfl 73 zeros hm2 HI.out HZ.out HO.out ?_
      refine hK _ _ ⟨b0, b1, b2, b3, b4, b5, true, b7, _, _, _, _, _, _, rfl, rfl, setRow_below hB hmb _, (by first | exact h0 | exact fun _ => rfl), (by first | exact h1 | exact fun _ => rfl), (by first | exact h2 | exact fun _ => rfl), (by first | exact h3 | exact fun _ => rfl), fun _ => ⟨mb, rfl, hmb, setRow_heap _ _ _ _ _ _ hm2⟩, fun h => ?_, ⟨fun h => (by rw [hb4] at h; cases h), h6.2⟩⟩
      obtain ⟨kb, e1, e2, e3⟩ := h5 h
      refine ⟨kb, e1, e2, (setRow_other W mb kb M (fun he => ?_)).trans e3⟩
      subst he
      rw [hm2] at e3
      injection e3 with e3
      injection e3 with e3 e4 e5
      exact absurd e4 (by decide)
    · obtain rfl := h3 haf.2.1
      obtain ⟨kb, rfl, hkb, hk2⟩ := h5 haf.1
      have hb5 := haf.1
      subst hun
      have hk3 := cell_of_one hk2
      have hk4 := free_of_one hk2
      go_simp
      refine hK _ _ ⟨b0, b1, b2, b3, b4, b5, b6, true, _, _, _, _, _, _, rfl, rfl, hB.setCell (p := ⟨kb, 0, none⟩) hkb _, (by first | exact h0 | exact fun _ => rfl), (by first | exact h1 | exact fun _ => rfl), (by first | exact h2 | exact fun _ => rfl), (by first | exact h3 | exact fun _ => rfl), fun h => ?_, fun _ => ⟨kb, rfl, hkb, one_setCell hk2⟩, ⟨h6.1, fun h => (by rw [hb5] at h; cases h)⟩⟩
      obtain ⟨mb, e1, e2, e3⟩ := h4 h
      refine ⟨mb, e1, e2, (Below.heap_setCell _ _ _ _ (fun he => ?_)).trans e3⟩
      change mb = kb at he
      subst he
      rw [hk2] at e3
      injection e3 with e3
      injection e3 with e3 e4 e5
      exact absurd e4 (by decide)
  · intro L A W hI hr
    obtain ⟨b0, b1, b2, b3, b4, b5, b6, b7, v4, v5, v6, v7, v8, v9, rfl, rfl, hB, h0, h1, h2, h3, h4, h5, h6⟩ := hI
    have d0 := ready_done hr 0 _ rfl (by simp [Region.binds])
    have d2 := ready_done hr 2 _ rfl (by simp [Region.binds])
    have d4 := ready_done hr 4 _ rfl (by simp [Region.binds])
    have d5 := ready_done hr 5 _ rfl (by simp [Region.binds])
    simp at d0 d2 d4 d5
    subst d0 d2 d4 d5
    have d1 := ready_done hr 1 _ rfl (by simp [Region.binds])
    simp at d1
    subst d1
    have d3 := ready_done hr 3 _ rfl (by simp [Region.binds])
    simp at d3
    subst d3
    have d6 := ready_done hr 6 _ rfl (by simp [Region.binds])
    simp at d6
    subst d6
    have d7 := ready_done hr 7 _ rfl (by simp [Region.binds])
    simp at d7
    subst d7
    obtain rfl := h0 rfl
    obtain rfl := h1 rfl
    obtain rfl := h2 rfl
    obtain rfl := h3 rfl
    obtain ⟨mb, rfl, hmb, hm2⟩ := h4 rfl
    obtain ⟨kb, rfl, hkb, hk2⟩ := h5 rfl
    have HM := Lib.hid hm2
    have HK := Lib.hid hk2
    have HB := Lib.hid hB
    clear hr h0 h1 h2 h3 h4 h5 h6 hm2 hk2 hB C1 C2 HF
    have hmf : ∀ (fn : Fn) (first cap : Array Value) (w : World), (Instr.makeFunc fn first cap).run Tryd.prog w = .ok (.func fn first cap) w := fun _ _ _ _ => rfl
    have s0 := (HS1.out.below HB.out).c0
    have s1 := (HS1.out.below HB.out).c1
    go_wp2_with (refine wpList_load_row rfl 73 _ rfl mb rfl 73 M (0, 0) _ HM.out Tryd.underlying73 rfl HI.out ?_)
    refine (CH.out _).mono ?_
    rintro e W2 ⟨rfl, hb2⟩
    have HB2 := Lib.hid (HB.out.trans (hb2.mono HB.out.size))
    have HM2 := Lib.hid ((hb2.block _ (Array.getElem?_eq_some_iff.1 HM.out).1).trans HM.out)
    have HK2 := Lib.hid ((hb2.block _ (Array.getElem?_eq_some_iff.1 HK.out).1).trans HK.out)
    clear hb2 s0 s1 HM HK CH
    go_wp2_with fail
    refine (require_yes _).mono ?_
    rintro e W3 ⟨rfl, rfl⟩
    go_wp2_with (refine wpList_load_row rfl 73 _ rfl mb rfl 73 M (0, 0) _ HM2.out Tryd.underlying73 rfl HI.out ?_)
    refine (CBl.out _).mono ?_
    rintro e W4 ⟨ao, n, cap, rfl, hO, hb4⟩
    have HB4 := Lib.hid (HB2.out.trans (hb4.mono HB2.out.size))
    have hk4 := cell_of_one ((hb4.block _ (Array.getElem?_eq_some_iff.1 HK2.out).1).trans HK2.out)
    have CM4 := Lib.hid (CM.out kb ps _ W4 (OwnS.sl hO) hk4 (HS1.out.below HB4.out))
    clear hb4 hO hk4 CBl CM HM2 HK2
    go_wp2_with fail
    refine CM4.out.mono ?_
    rintro e W5 ⟨rfl, hb5⟩
    have HB5 := Lib.hid (HB4.out.trans (hb5.mono HB4.out.size))
    have HR5 := Lib.hid (HR1.out.below HB5.out)
    have z0 := HR5.out.c0
    have z1 := HR5.out.c1
    have g0 := two_free HR5.out 0
    have g1 := two_free HR5.out 1
    have HBw := Lib.hid (HA.out.trans (HB5.out.mono HA.out.size))
    clear hb5 CM4
    go_wp2_with fail
    exact bodyPost_ret (results_cell1 (p := 3) (ty := 31) Tryd.results104 _ _ w.heap.size 31 _ (0, 0) _ rfl (HR5.out.upd r1 r2) Tryd.underlying31 rfl infoSp1) rfl ⟨rfl, (HBw.out.setCell (p := ⟨w.heap.size, 0, none⟩) (by simp) _).setCell (p := ⟨w.heap.size, 1, none⟩) (by simp) _⟩
end Go.Proofs.YtakaglbbcaplhaaDoor
