/- Contracts of single functions, and plain lemmas, on which the exact laws of this seat rest; each holds under the conditions that it states. -/
import Derived.Test.YtabkkpifkkgpeaaDoorR1
import Derived.Test.YtabkkpifkkgpeaaDoorCVP
import Derived.Deep.RegionHeld3
import Derived.Deep.DeepCutAuto
namespace Go.Proofs.YtabkkpifkkgpeaaDoor
set_option linter.unusedVariables false
set_option linter.unusedSimpArgs false
open Go.RowKit

theorem catchRR_panicking (p q : Addr) (u0 b0 : Value) (u : TypeId) (pv : Value) (older : List PanicEntry) (w : World) (hc : w.cell? p = some u0) (hz : w.frozen? p = false) (hc2 : w.cell? q = some b0) (hz2 : w.frozen? q = false) (hne : p.block ≠ q.block) :
    CallsD Tryd.prog 126 #[.pointer (some p), .pointer (some q)] (.panicking ({ v := .iface u pv, recovered := false } :: older)) w fun e u' w' =>
      e = .returned (.tuple #[]) ∧ u' = .panicking ({ v := .iface u pv, recovered := true } :: older) ∧ w' = (w.setCell p (.slice none 0 0)).setCell q (.bool false) := by
  have hd2 : (w.setCell p (.slice none 0 0)).cell? q = some b0 := by rw [World.cell?_setCell_other _ _ _ _ (fun e => hne (by rw [e]))]; exact hc2
  have hf2 : (w.setCell p (.slice none 0 0)).frozen? q = false := by rw [World.frozen?_setCell]; exact hz2
  refine callsD_of_wpS Tryd.func126 rfl fun c₀ cs hu => ?_
  apply wpS_seq
  apply wpS_region
  simp [wpOpsS, go_sem, recoverD, hu, Tryd.ntmps126, Exit.thenS]
  refine wpS_cond (t := true) (by simp [Act.eval, Array.replicate]) ?_
  simp only [if_true]
  apply wpS_seq
  apply wpS_region
  simp [wpOpsS, go_sem, Exit.thenS]
  apply wpS_region
  simp [wpOpsS, go_sem, hc, hz, hd2, hf2, bodyPostS, results, Tryd.results126]

theorem catchRR_idle (p q : Addr) (w : World) :
    CallsD Tryd.prog 126 #[.pointer (some p), .pointer (some q)] .returning w fun e u' w' => e = .returned (.tuple #[]) ∧ u' = .returning ∧ w' = w := by
  refine callsD_of_wpS Tryd.func126 rfl fun c₀ cs hu => ?_
  apply wpS_seq
  apply wpS_region
  simp [wpOpsS, go_sem, recoverD, hu, Tryd.ntmps126, Exit.thenS]
  refine wpS_cond (t := false) (by simp [Act.eval, Array.replicate]) ?_
  simp only [Bool.false_eq_true, if_false]
  refine wpS_of_wp (wp_skip ?_)
  cases c₀
  simp_all [bodyPostS, results, Tryd.results126]

/-- the work yields -/
theorem attemptRR_yes (K : Nat) (caps : Array Value) (w : World) (Q : Value → World → World → Prop) (hcf : ∀ args (W : World), (callFunc K args).run Tryd.prog W = .ok (.enter K args) W) (hw : ∀ W, Below w.heap.size w W → Calls Tryd.prog K caps W (fun e w' => ∃ (ao : Option Addr) (n cap : Nat), e = .returned (.slice ao n cap) ∧ Q (.slice ao n cap) W w' ∧ Below W.heap.size W w')) :
    Calls Tryd.prog 61 #[.func (.func K) #[] caps] w fun e w' => ∃ (ao : Option Addr) (n cap : Nat) (w1 : World), e = .returned (.tuple #[.slice ao n cap, .bool true]) ∧ Q (.slice ao n cap) ((w.alloc (.cells #[.slice none 0 0] 34)).alloc (.cells #[.bool false] 4)) w1 ∧ Below w.heap.size w w1 ∧ w' = (w1.setCell ⟨w.heap.size, 0, none⟩ (.slice ao n cap)).setCell ⟨w.heap.size + 1, 0, none⟩ (.bool true) ∧ w1.heap[w.heap.size]? = some (.cells #[.slice none 0 0] 34 (0, 0)) ∧ w1.heap[w.heap.size + 1]? = some (.cells #[.bool false] 4 (0, 0)) := by
  have hmf : ∀ (fn : Fn) (first cap : Array Value) (w : World), (Instr.makeFunc fn first cap).run Tryd.prog w = .ok (.func fn first cap) w := fun _ _ _ _ => rfl
  have hb0 := Joins.below_alloc2 w (.cells #[.slice none 0 0] 34) (.cells #[.bool false] 4)
  have CW := Lib.hid (hw _ hb0)
  have h1 : ((w.alloc (.cells #[.slice none 0 0] 34)).alloc (.cells #[.bool false] 4)).heap[w.heap.size]? = some (.cells #[.slice none 0 0] 34 (0, 0)) := by
    rw [Below.heap_alloc _ _ _ (by simp)]; exact heap_alloc_last w _
  have h2 : ((w.alloc (.cells #[.slice none 0 0] 34)).alloc (.cells #[.bool false] 4)).heap[w.heap.size + 1]? = some (.cells #[.bool false] 4 (0, 0)) := heap_alloc2_new _ _ _
  have H1 := Lib.hid h1
  have H2 := Lib.hid h2
  have B0 := Lib.hid hb0
  clear h1 h2 hb0 hw
  go_enter_defers Tryd.func61, Tryd.ntmps61
  go_wp2_with fail
  refine CW.out.mono ?_
  rintro e w1 ⟨ao, n, cap, rfl, hQ, hb⟩
  have r1 := (hb.block w.heap.size (by simp; omega)).trans H1.out
  have r2 := (hb.block (w.heap.size + 1) (by simp)).trans H2.out
  have c1 := cell_of_one r1
  have c2 := cell_of_one r2
  have f1 := free_of_one r1
  have f2 := free_of_one r2
  have HQ := Lib.hid hQ
  have HB := Lib.hid hb
  have R1 := Lib.hid r1
  have R2 := Lib.hid r2
  clear hQ hb r1 r2
  go_wp2_with fail
  have x1 : ((w1.setCell ⟨w.heap.size, 0, none⟩ (.slice ao n cap)).setCell ⟨w.heap.size + 1, 0, none⟩ (.bool true)).cell? ⟨w.heap.size, 0, none⟩ = some (.slice ao n cap) := by
    rw [World.cell?_setCell_other _ _ _ _ (by intro e; have := congrArg Addr.block e; simp at this)]
    exact cell_of_one (one_setCell R1.out)
  have r3 : (w1.setCell ⟨w.heap.size, 0, none⟩ (.slice ao n cap)).heap[w.heap.size + 1]? = some (.cells #[.bool false] 4 (0, 0)) := (Below.heap_setCell _ _ _ _ (by simp)).trans R2.out
  have x2 : ((w1.setCell ⟨w.heap.size, 0, none⟩ (.slice ao n cap)).setCell ⟨w.heap.size + 1, 0, none⟩ (.bool true)).cell? ⟨w.heap.size + 1, 0, none⟩ = some (.bool true) := cell_of_one (one_setCell r3)
  refine leaves_cons (f := 126) (args := #[.pointer (some ⟨w.heap.size, 0, none⟩), .pointer (some ⟨w.heap.size + 1, 0, none⟩)]) (by simp) (by simp [go_sem]) ?_
  refine (catchRR_idle ⟨w.heap.size, 0, none⟩ ⟨w.heap.size + 1, 0, none⟩ _).mono ?_
  rintro e u' w'' ⟨rfl, rfl, rfl⟩
  refine ⟨.tuple #[.slice ao n cap, .bool true], by simp [results, Tryd.results61, go_sem, x1, x2], ao, n, cap, w1, rfl, HQ.out, B0.out.trans (HB.out.mono (by simp; omega)), rfl, R1.out, R2.out⟩

set_option maxHeartbeats 1000000 in
set_option maxRecDepth 100000 in
/-- the work is given up -/
theorem attemptRR_no (K : Nat) (caps : Array Value) (w : World) (hcf : ∀ args (W : World), (callFunc K args).run Tryd.prog W = .ok (.enter K args) W) (hw : ∀ W, Below w.heap.size w W → Calls Tryd.prog K caps W (fun e w' => (∃ T x, e = .panicked [{ v := .iface T x, recovered := false }]) ∧ Below W.heap.size W w')) :
    Calls Tryd.prog 61 #[.func (.func K) #[] caps] w fun e w' => e = .returned (.tuple #[.slice none 0 0, .bool false]) ∧ Below w.heap.size w w' := by
  have hmf : ∀ (fn : Fn) (first cap : Array Value) (w : World), (Instr.makeFunc fn first cap).run Tryd.prog w = .ok (.func fn first cap) w := fun _ _ _ _ => rfl
  have hb0 := Joins.below_alloc2 w (.cells #[.slice none 0 0] 34) (.cells #[.bool false] 4)
  have CW := Lib.hid (hw _ hb0)
  have h1 : ((w.alloc (.cells #[.slice none 0 0] 34)).alloc (.cells #[.bool false] 4)).heap[w.heap.size]? = some (.cells #[.slice none 0 0] 34 (0, 0)) := by
    rw [Below.heap_alloc _ _ _ (by simp)]; exact heap_alloc_last w _
  have h2 : ((w.alloc (.cells #[.slice none 0 0] 34)).alloc (.cells #[.bool false] 4)).heap[w.heap.size + 1]? = some (.cells #[.bool false] 4 (0, 0)) := heap_alloc2_new _ _ _
  have H1 := Lib.hid h1
  have H2 := Lib.hid h2
  have B0 := Lib.hid hb0
  clear h1 h2 hb0 hw
  go_enter_defers Tryd.func61, Tryd.ntmps61
  go_wp2_with fail
  refine CW.out.mono ?_
  rintro e w1 ⟨⟨T, x, rfl⟩, hb⟩
  have r1 := (hb.block w.heap.size (by simp; omega)).trans H1.out
  have r2 := (hb.block (w.heap.size + 1) (by simp)).trans H2.out
  have HB := Lib.hid (B0.out.trans (hb.mono (by simp; omega)))
  clear hb
  go_wp2_with fail
  have r3 : (w1.setCell ⟨w.heap.size, 0, none⟩ (.slice none 0 0)).heap[w.heap.size + 1]? = some (.cells #[.bool false] 4 (0, 0)) := (Below.heap_setCell _ _ _ _ (by simp)).trans r2
  have x1 : ((w1.setCell ⟨w.heap.size, 0, none⟩ (.slice none 0 0)).setCell ⟨w.heap.size + 1, 0, none⟩ (.bool false)).cell? ⟨w.heap.size, 0, none⟩ = some (.slice none 0 0) := by
    rw [World.cell?_setCell_other _ _ _ _ (by intro e; have := congrArg Addr.block e; simp at this)]
    exact cell_of_one (one_setCell r1)
  have x2 : ((w1.setCell ⟨w.heap.size, 0, none⟩ (.slice none 0 0)).setCell ⟨w.heap.size + 1, 0, none⟩ (.bool false)).cell? ⟨w.heap.size + 1, 0, none⟩ = some (.bool false) := cell_of_one (one_setCell r3)
  have hs := HB.out.size
  refine leaves_cons (f := 126) (args := #[.pointer (some ⟨w.heap.size, 0, none⟩), .pointer (some ⟨w.heap.size + 1, 0, none⟩)]) (by simp) (by simp [go_sem]) ?_
  refine (catchRR_panicking ⟨w.heap.size, 0, none⟩ ⟨w.heap.size + 1, 0, none⟩ (.slice none 0 0) (.bool false) T x [] _ (cell_of_one r1) (free_of_one r1) (cell_of_one r2) (free_of_one r2) (by simp)).mono ?_
  rintro e u' w'' ⟨rfl, rfl, rfl⟩
  refine ⟨.tuple #[.slice none 0 0, .bool false], by simp [results, Tryd.results61, go_sem, x1, x2], rfl, (HB.out.setCell (p := ⟨w.heap.size, 0, none⟩) (Nat.le_refl _) _).setCell (p := ⟨w.heap.size + 1, 0, none⟩) (by simp) _⟩

end Go.Proofs.YtabkkpifkkgpeaaDoor

/- Contracts of single functions, and plain lemmas, on which the exact laws of this seat rest; each holds under the conditions that it states. -/
namespace Go.Proofs.YtabkkpifkkgpeaaDoor
set_option linter.unusedVariables false
set_option linter.unusedSimpArgs false
open Go.RowKit
attribute [local go_sem] Oper.semAt_some

/-! ### the intervals of a box -/
def ivOk (c n ax ay bx b_y : Int) : Bool := (inB c 0 3 && inB n 0 4) && boxOk n ax ay bx b_y
def ivV (c n ax ay bx b_y : Int) : List (List Int) := if ivOk c n ax ay bx b_y = true then ivL (bxF c.toNat n.toNat ax ay bx b_y) (cvF c.toNat n.toNat).length else []
/-- rows of the call's own and a bool handed back -/
def SaysRR (xss : List (List Int)) (ok : Bool) (w : World) (e : Ending) (w' : World) : Prop := ∃ v us, e = .returned (.tuple #[v, .bool ok]) ∧ OwnL w' w.heap.size w'.heap.size v us xss ∧ Below w.heap.size w w'

/-- the arguments in variables -/
def At4 (W : World) (pc pn pf pt : Nat) (c n ax ay bx b_y : Int) : Prop :=
  W.cell? ⟨pc, 0, none⟩ = some (.int .i64 c) ∧ W.cell? ⟨pn, 0, none⟩ = some (.int .i64 n) ∧ W.cell? ⟨pf, 0, none⟩ = some (.int .i64 ax) ∧ W.cell? ⟨pf, 1, none⟩ = some (.int .i64 ay) ∧ W.cell? ⟨pt, 0, none⟩ = some (.int .i64 bx) ∧ W.cell? ⟨pt, 1, none⟩ = some (.int .i64 b_y)
theorem At4.kept {w W : World} {pc pn pf pt : Nat} {c n ax ay bx b_y : Int} (h : At4 w pc pn pf pt c n ax ay bx b_y) (hb : Below w.heap.size w W) : At4 W pc pn pf pt c n ax ay bx b_y :=
  ⟨cell_kept hb h.1, cell_kept hb h.2.1, cell_kept hb h.2.2.1, cell_kept hb h.2.2.2.1, cell_kept hb h.2.2.2.2.1, cell_kept hb h.2.2.2.2.2⟩

set_option maxHeartbeats 4000000 in
set_option maxRecDepth 100000 in
theorem ivWork (pc pn pf pt : Nat) (c n ax ay bx b_y : Int) (w : World) (h : At4 w pc pn pf pt c n ax ay bx b_y) (hQ : QvP w) (hok : ivOk c n ax ay bx b_y = true) :
    Calls Tryd.prog 62 #[.pointer (some ⟨pc, 0, none⟩), .pointer (some ⟨pn, 0, none⟩), .pointer (some ⟨pf, 0, none⟩), .pointer (some ⟨pt, 0, none⟩)] w (fun e w' => ∃ (ao : Option Addr) (n' cap : Nat), e = .returned (.slice ao n' cap) ∧ (∃ us, OwnL w' w.heap.size w'.heap.size (.slice ao n' cap) us (ivV c n ax ay bx b_y)) ∧ Below w.heap.size w w') := by
  have hV : ivV c n ax ay bx b_y = ivL (bxF c.toNat n.toNat ax ay bx b_y) (cvF c.toNat n.toNat).length := by unfold ivV; rw [if_pos hok]
  unfold ivOk at hok
  obtain ⟨ht, hbx⟩ := Bool.and_eq_true_iff.1 hok
  have ht2 : inB c 0 3 = true ∧ inB n 0 4 = true := by simpa using ht
  have CT : Hid (∀ W, Calls Tryd.prog 49 #[.int .i64 c, .int .i64 n] W (fun e w' => e = .returned (.agg #[.int .i64 c, .int .i64 n]) ∧ Below W.heap.size W w')) := fun W => requiredTour_yes c n W ht2.1 ht2.2
  have HCR : Hid (∀ W, Below w.heap.size w W → Calls Tryd.prog 64 #[.agg #[.int .i64 c, .int .i64 n], .agg #[.int .i64 ax, .int .i64 ay], .agg #[.int .i64 bx, .int .i64 b_y]] W (fun e w' => ∃ v, e = .returned v ∧ SlN w' v (ixsV (bxF c.toNat n.toNat ax ay bx b_y) (cvF c.toNat n.toNat).length) ∧ Below W.heap.size W w')) := fun W hb => reqIx_int ht hbx (hQ.below hb)
  obtain ⟨_, _, h256⟩ := nb_len ht
  have hl1 := (nb_len ht).1
  rw [← hl1] at h256
  have CIv : Hid (∀ v W, SlN W v (ixsV (bxF c.toNat n.toNat ax ay bx b_y) (cvF c.toNat n.toNat).length) → Calls Tryd.prog 63 #[v] W (TookRR (ivV c n ax ay bx b_y) W)) := fun v W hv => by
    have hle := ixsV_len (bxF c.toNat n.toNat ax ay bx b_y) (cvF c.toNat n.toNat).length
    have := intervals_any v _ W hv (by omega) (fun i hi => by
      obtain ⟨j, h1, h2, _⟩ := ixs_at hi
      rw [h1]
      omega)
    rw [iv_eq, ← hV] at this
    exact this
  obtain ⟨P, hP⟩ : ∃ P, ivV c n ax ay bx b_y = P := ⟨_, rfl⟩
  obtain ⟨X, hX⟩ : ∃ P, ixsV (bxF c.toNat n.toNat ax ay bx b_y) (cvF c.toNat n.toNat).length = P := ⟨_, rfl⟩
  rw [hX] at HCR CIv
  rw [hP] at CIv ⊢
  unfold TookRR at CIv
  have HA : Hid (∀ W, Below w.heap.size w W → At4 W pc pn pf pt c n ax ay bx b_y) := fun W hb => h.kept hb
  unfold At4 at HA
  clear hok hV ht hbx ht2 hl1 h256 hP hX h hQ
  go_enter Tryd.func62, Tryd.ntmps62
  go_upto_region 1 with fail
  go_region_held3 (fun w' => w'.cell? ⟨pc, 0, none⟩ = some (.int .i64 c) ∧ w'.cell? ⟨pn, 0, none⟩ = some (.int .i64 n) ∧ w'.cell? ⟨pf, 0, none⟩ = some (.int .i64 ax) ∧ w'.cell? ⟨pf, 1, none⟩ = some (.int .i64 ay) ∧ w'.cell? ⟨pt, 0, none⟩ = some (.int .i64 bx) ∧ w'.cell? ⟨pt, 1, none⟩ = some (.int .i64 b_y))
    (first | exact HA.out _ (Below.refl _ _) | exact HA.out _ (Below.refl _ _).drew | exact HA.out _ ((Below.refl _ _).drew.trans hb4) | exact HA.out _ (((Below.refl _ _).drew.trans hb4).trans (hb5.mono hb4.size)) | exact HA.out _ ((((Below.refl _ _).drew.trans hb4).trans (hb5.mono hb4.size)).trans (hb6.mono (Nat.le_trans hb4.size hb5.size))))
    (first | (go_at_call 49; refine (CT.out _).mono ?_; rintro e w4 ⟨rfl, hb4⟩) | (go_at_call 64; refine (HCR.out _ ((Below.refl _ _).drew.trans hb4)).mono ?_; rintro e w5 ⟨v5, rfl, hv5, hb5⟩) | (go_at_call 63; refine (CIv.out _ _ hv5).mono ?_; rintro e w6 ⟨v, us, rfl, hv, hb6⟩))
  have hb16 := (((Below.refl w.heap.size w).drew.trans hb4).trans (hb5.mono hb4.size)).trans (hb6.mono (Nat.le_trans hb4.size hb5.size))
  have B6 := Lib.hid hb16
  have HV := Lib.hid (OwnR.mono (show OwnR _ _ _ _ _ _ _ from hv) (Nat.le_trans (show w.heap.size ≤ w4.heap.size from hb4.size) (show w4.heap.size ≤ w5.heap.size from hb5.size)) (Nat.le_refl _))
  obtain ⟨ao, cap, rfl⟩ := (OwnR.sl HV.out).form
  clear hb4 hb5 hb6 hb16 hv hv5 CT CIv HCR HA
  go_wp2_with fail
  go_ret
  exact ⟨_, _, _, rfl, ⟨_, HV.out⟩, B6.out⟩

set_option maxHeartbeats 4000000 in
set_option maxRecDepth 100000 in
theorem ivWork_no (pc pn pf pt : Nat) (c n ax ay bx b_y : Int) (w : World) (h : At4 w pc pn pf pt c n ax ay bx b_y) (hr : NoRes w) (hok : ivOk c n ax ay bx b_y = false) :
    Calls Tryd.prog 62 #[.pointer (some ⟨pc, 0, none⟩), .pointer (some ⟨pn, 0, none⟩), .pointer (some ⟨pf, 0, none⟩), .pointer (some ⟨pt, 0, none⟩)] w (fun e w' => (∃ T x, e = .panicked [{ v := .iface T x, recovered := false }]) ∧ Below w.heap.size w w') := by
  have HA : Hid (∀ W, Below w.heap.size w W → At4 W pc pn pf pt c n ax ay bx b_y) := fun W hb => h.kept hb
  unfold At4 at HA
  cases ht : (inB c 0 3 && inB n 0 4) with
  | false =>
    have CT : Hid (∀ W, Below w.heap.size w W → Calls Tryd.prog 49 #[.int .i64 c, .int .i64 n] W (fun e w' => (∃ T x, e = .panicked [{ v := .iface T x, recovered := false }]) ∧ Below W.heap.size W w')) := fun W hb => requiredTour_no c n W ht (hr.below hb)
    clear h hr hok ht
    go_enter Tryd.func62, Tryd.ntmps62
    go_upto_region 1 with fail
    refine wp_region_inv_at (by kernel_rfl) (fun A0 L A W => ∃ (b0 b1 b2 b3 b4 b5 b6 b7 : Bool) (v5 v6 v7 v8 v9 v10 v11 v4 : Value), L = #[b0, b1, b2, b3, b4, b5, b6, b7] ∧ A = ((((((((A0.put (some 5) v5).put (some 6) v6).put (some 7) v7).put (some 8) v8).put (some 9) v9).put (some 10) v10).put (some 11) v11).put (some 4) v4) ∧ (Below w.heap.size w W) ∧ Hid (b0 = true → v5 = .int .i64 c) ∧ Hid (b1 = true → v6 = .int .i64 n) ∧ Hid (b2 = true → False) ∧ Hid (b3 = true → v8 = .agg #[.int .i64 ax, .int .i64 ay]) ∧ Hid (b4 = true → v9 = .agg #[.int .i64 bx, .int .i64 b_y]) ∧ Hid (b5 = true → False) ∧ Hid (b6 = true → False) ∧ Hid (b7 = true → False)) ?_ ?_ ?_
    · intro A0
      refine ⟨false, false, false, false, false, false, false, false, A0.tmps.getD 5 undef, A0.tmps.getD 6 undef, A0.tmps.getD 7 undef, A0.tmps.getD 8 undef, A0.tmps.getD 9 undef, A0.tmps.getD 10 undef, A0.tmps.getD 11 undef, A0.tmps.getD 4 undef, rfl, (by simp only [put_self]), (Below.refl _ _).drew, Lib.hid (fun hf => by cases hf), Lib.hid (fun hf => by cases hf), Lib.hid (fun hf => by cases hf), Lib.hid (fun hf => by cases hf), Lib.hid (fun hf => by cases hf), Lib.hid (fun hf => by cases hf), Lib.hid (fun hf => by cases hf), Lib.hid (fun hf => by cases hf)⟩
    · intro L A W hI i hi o ho K' hK
      have hlt := (ready_left hi).1
      have hun := (ready_left hi).2
      have haf := ready_after hi ho
      clear hi
      obtain ⟨b0, b1, b2, b3, b4, b5, b6, b7, v5, v6, v7, v8, v9, v10, v11, v4, rfl, rfl, hB, h0, h1, h2, h3, h4, h5, h6, h7⟩ := hI
      have hc : i = 0 ∨ i = 1 ∨ i = 2 ∨ i = 3 ∨ i = 4 ∨ i = 5 ∨ i = 6 ∨ i = 7 := by
        simp at hlt
        omega
      have qq := HA.out W hB
      obtain ⟨q0, q1, q2, q3, q4, q5⟩ := qq
      rcases hc with rfl | rfl | rfl | rfl | rfl | rfl | rfl | rfl
      all_goals (obtain rfl := Option.some.inj ho; clear ho; simp [Region.binds] at haf hun; (try simp only [List.getElem_toArray, List.getElem_cons_zero, List.getElem_cons_succ]); simp only [Act.put, List.setIfInBounds_toArray, List.set_cons_zero, List.set_cons_succ])
      · -- operation 0
        replace hK := Lib.hid hK
        subst hun
        go_simp
        exact hK.out _ _ ⟨true, b1, b2, b3, b4, b5, b6, b7, .int .i64 c, v6, v7, v8, v9, v10, v11, v4, rfl, (by simp only [Act.put, List.setIfInBounds_toArray, List.set_cons_zero, List.set_cons_succ]), hB, Lib.hid (fun _ => rfl), h1, h2, h3, h4, h5, h6, h7⟩
      · -- operation 1
        replace hK := Lib.hid hK
        subst hun
        go_simp
        exact hK.out _ _ ⟨b0, true, b2, b3, b4, b5, b6, b7, v5, .int .i64 n, v7, v8, v9, v10, v11, v4, rfl, (by simp only [Act.put, List.setIfInBounds_toArray, List.set_cons_zero, List.set_cons_succ]), hB, h0, Lib.hid (fun _ => rfl), h2, h3, h4, h5, h6, h7⟩
      · -- operation 2
        replace hK := Lib.hid hK
        obtain rfl := (h0.out (by simp only [haf])).symm
        obtain rfl := (h1.out (by simp only [haf])).symm
        subst hun
        go_simp
        refine (CT.out W hB).mono ?_
        rintro e W' ⟨⟨T, p, rfl⟩, hb⟩
        have hb9 := hB.trans (hb.mono hB.size)
        clear hb
        go_wp2
        exact ⟨rfl, ⟨T, p, rfl⟩, hb9⟩
      · -- operation 3
        replace hK := Lib.hid hK
        subst hun
        go_simp
        exact hK.out _ _ ⟨b0, b1, b2, true, b4, b5, b6, b7, v5, v6, v7, .agg #[.int .i64 ax, .int .i64 ay], v9, v10, v11, v4, rfl, (by simp only [Act.put, List.setIfInBounds_toArray, List.set_cons_zero, List.set_cons_succ]), hB, h0, h1, h2, Lib.hid (fun _ => rfl), h4, h5, h6, h7⟩
      · -- operation 4
        replace hK := Lib.hid hK
        subst hun
        go_simp
        exact hK.out _ _ ⟨b0, b1, b2, b3, true, b5, b6, b7, v5, v6, v7, v8, .agg #[.int .i64 bx, .int .i64 b_y], v10, v11, v4, rfl, (by simp only [Act.put, List.setIfInBounds_toArray, List.set_cons_zero, List.set_cons_succ]), hB, h0, h1, h2, h3, Lib.hid (fun _ => rfl), h5, h6, h7⟩
      · -- operation 5
        replace hK := Lib.hid hK
        exact (h2.out (by simp only [haf])).elim
      · -- operation 6
        replace hK := Lib.hid hK
        exact (h5.out (by simp only [haf])).elim
      · -- operation 7
        replace hK := Lib.hid hK
        exact (h6.out (by simp only [haf])).elim
    intro L A W hI hr
    obtain ⟨b0, b1, b2, b3, b4, b5, b6, b7, v5, v6, v7, v8, v9, v10, v11, v4, rfl, rfl, hB, h0, h1, h2, h3, h4, h5, h6, h7⟩ := hI
    have d0 := ready_done hr 0 _ rfl (by simp [Region.binds])
    have d1 := ready_done hr 1 _ rfl (by simp [Region.binds])
    have d3 := ready_done hr 3 _ rfl (by simp [Region.binds])
    have d4 := ready_done hr 4 _ rfl (by simp [Region.binds])
    simp at d0 d1 d3 d4
    subst d0 d1 d3 d4
    have d2 := ready_done hr 2 _ rfl (by simp [Region.binds])
    simp at d2
    subst d2
    exact (h2.out rfl).elim
  | true =>
    have ht2 : inB c 0 3 = true ∧ inB n 0 4 = true := by simpa using ht
    have CT : Hid (∀ W, Calls Tryd.prog 49 #[.int .i64 c, .int .i64 n] W (fun e w' => e = .returned (.agg #[.int .i64 c, .int .i64 n]) ∧ Below W.heap.size W w')) := fun W => requiredTour_yes c n W ht2.1 ht2.2
    unfold ivOk at hok
    rw [ht, Bool.true_and] at hok
    have CR : Hid (∀ W, Below w.heap.size w W → Calls Tryd.prog 64 #[.agg #[.int .i64 c, .int .i64 n], .agg #[.int .i64 ax, .int .i64 ay], .agg #[.int .i64 bx, .int .i64 b_y]] W (fun e w' => (∃ T x, e = .panicked [{ v := .iface T x, recovered := false }]) ∧ Below W.heap.size W w')) := fun W hbw => reqIx_int_no ht hok (hr.below hbw)
    clear h hr hok ht ht2
    go_enter Tryd.func62, Tryd.ntmps62
    go_upto_region 1 with fail
    refine wp_region_inv_at (by kernel_rfl) (fun A0 L A W => ∃ (b0 b1 b2 b3 b4 b5 b6 b7 : Bool) (v5 v6 v7 v8 v9 v10 v11 v4 : Value), L = #[b0, b1, b2, b3, b4, b5, b6, b7] ∧ A = ((((((((A0.put (some 5) v5).put (some 6) v6).put (some 7) v7).put (some 8) v8).put (some 9) v9).put (some 10) v10).put (some 11) v11).put (some 4) v4) ∧ (Below w.heap.size w W) ∧ Hid (b0 = true → v5 = .int .i64 c) ∧ Hid (b1 = true → v6 = .int .i64 n) ∧ Hid (b2 = true → v7 = .agg #[.int .i64 c, .int .i64 n]) ∧ Hid (b3 = true → v8 = .agg #[.int .i64 ax, .int .i64 ay]) ∧ Hid (b4 = true → v9 = .agg #[.int .i64 bx, .int .i64 b_y]) ∧ Hid (b5 = true → False) ∧ Hid (b6 = true → False) ∧ Hid (b7 = true → False)) ?_ ?_ ?_
    · intro A0
      refine ⟨false, false, false, false, false, false, false, false, A0.tmps.getD 5 undef, A0.tmps.getD 6 undef, A0.tmps.getD 7 undef, A0.tmps.getD 8 undef, A0.tmps.getD 9 undef, A0.tmps.getD 10 undef, A0.tmps.getD 11 undef, A0.tmps.getD 4 undef, rfl, (by simp only [put_self]), (Below.refl _ _).drew, Lib.hid (fun hf => by cases hf), Lib.hid (fun hf => by cases hf), Lib.hid (fun hf => by cases hf), Lib.hid (fun hf => by cases hf), Lib.hid (fun hf => by cases hf), Lib.hid (fun hf => by cases hf), Lib.hid (fun hf => by cases hf), Lib.hid (fun hf => by cases hf)⟩
    · intro L A W hI i hi o ho K' hK
      have hlt := (ready_left hi).1
      have hun := (ready_left hi).2
      have haf := ready_after hi ho
      clear hi
      obtain ⟨b0, b1, b2, b3, b4, b5, b6, b7, v5, v6, v7, v8, v9, v10, v11, v4, rfl, rfl, hB, h0, h1, h2, h3, h4, h5, h6, h7⟩ := hI
      have hc : i = 0 ∨ i = 1 ∨ i = 2 ∨ i = 3 ∨ i = 4 ∨ i = 5 ∨ i = 6 ∨ i = 7 := by
        simp at hlt
        omega
      have qq := HA.out W hB
      obtain ⟨q0, q1, q2, q3, q4, q5⟩ := qq
      rcases hc with rfl | rfl | rfl | rfl | rfl | rfl | rfl | rfl
      all_goals (obtain rfl := Option.some.inj ho; clear ho; simp [Region.binds] at haf hun; (try simp only [List.getElem_toArray, List.getElem_cons_zero, List.getElem_cons_succ]); simp only [Act.put, List.setIfInBounds_toArray, List.set_cons_zero, List.set_cons_succ])
      · -- operation 0
        replace hK := Lib.hid hK
        subst hun
        go_simp
        exact hK.out _ _ ⟨true, b1, b2, b3, b4, b5, b6, b7, .int .i64 c, v6, v7, v8, v9, v10, v11, v4, rfl, (by simp only [Act.put, List.setIfInBounds_toArray, List.set_cons_zero, List.set_cons_succ]), hB, Lib.hid (fun _ => rfl), h1, h2, h3, h4, h5, h6, h7⟩
      · -- operation 1
        replace hK := Lib.hid hK
        subst hun
        go_simp
        exact hK.out _ _ ⟨b0, true, b2, b3, b4, b5, b6, b7, v5, .int .i64 n, v7, v8, v9, v10, v11, v4, rfl, (by simp only [Act.put, List.setIfInBounds_toArray, List.set_cons_zero, List.set_cons_succ]), hB, h0, Lib.hid (fun _ => rfl), h2, h3, h4, h5, h6, h7⟩
      · -- operation 2
        replace hK := Lib.hid hK
        obtain rfl := (h0.out (by simp only [haf])).symm
        obtain rfl := (h1.out (by simp only [haf])).symm
        subst hun
        go_simp
        refine (CT.out W).mono ?_
        rintro e W' ⟨rfl, hb⟩
        have hkept := fun kb (hk : kb < W.heap.size) => hb.block kb hk
        exact hK.out _ _ ⟨b0, b1, true, b3, b4, b5, b6, b7, .int .i64 c, .int .i64 n, .agg #[.int .i64 c, .int .i64 n], v8, v9, v10, v11, v4, rfl, (by simp only [Act.put, List.setIfInBounds_toArray, List.set_cons_zero, List.set_cons_succ]), hB.trans (hb.mono hB.size), Lib.hid (fun _ => rfl), Lib.hid (fun _ => rfl), Lib.hid (fun _ => rfl), h3, h4, h5, h6, h7⟩
      · -- operation 3
        replace hK := Lib.hid hK
        subst hun
        go_simp
        exact hK.out _ _ ⟨b0, b1, b2, true, b4, b5, b6, b7, v5, v6, v7, .agg #[.int .i64 ax, .int .i64 ay], v9, v10, v11, v4, rfl, (by simp only [Act.put, List.setIfInBounds_toArray, List.set_cons_zero, List.set_cons_succ]), hB, h0, h1, h2, Lib.hid (fun _ => rfl), h4, h5, h6, h7⟩
      · -- operation 4
        replace hK := Lib.hid hK
        subst hun
        go_simp
        exact hK.out _ _ ⟨b0, b1, b2, b3, true, b5, b6, b7, v5, v6, v7, v8, .agg #[.int .i64 bx, .int .i64 b_y], v10, v11, v4, rfl, (by simp only [Act.put, List.setIfInBounds_toArray, List.set_cons_zero, List.set_cons_succ]), hB, h0, h1, h2, h3, Lib.hid (fun _ => rfl), h5, h6, h7⟩
      · -- operation 5
        replace hK := Lib.hid hK
        obtain rfl := (h2.out (by simp only [haf])).symm
        obtain rfl := (h3.out (by simp only [haf])).symm
        obtain rfl := (h4.out (by simp only [haf])).symm
        subst hun
        go_simp
        refine (CR.out W hB).mono ?_
        rintro e W' ⟨⟨T, p, rfl⟩, hb⟩
        have hb9 := hB.trans (hb.mono hB.size)
        clear hb
        go_wp2
        exact ⟨rfl, ⟨T, p, rfl⟩, hb9⟩
      · -- operation 6
        replace hK := Lib.hid hK
        exact (h5.out (by simp only [haf])).elim
      · -- operation 7
        replace hK := Lib.hid hK
        exact (h6.out (by simp only [haf])).elim
    intro L A W hI hr
    obtain ⟨b0, b1, b2, b3, b4, b5, b6, b7, v5, v6, v7, v8, v9, v10, v11, v4, rfl, rfl, hB, h0, h1, h2, h3, h4, h5, h6, h7⟩ := hI
    have d0 := ready_done hr 0 _ rfl (by simp [Region.binds])
    have d1 := ready_done hr 1 _ rfl (by simp [Region.binds])
    have d3 := ready_done hr 3 _ rfl (by simp [Region.binds])
    have d4 := ready_done hr 4 _ rfl (by simp [Region.binds])
    simp at d0 d1 d3 d4
    subst d0 d1 d3 d4
    have d2 := ready_done hr 2 _ rfl (by simp [Region.binds])
    simp at d2
    subst d2
    have d5 := ready_done hr 5 _ rfl (by simp [Region.binds])
    simp at d5
    subst d5
    exact (h5.out rfl).elim

theorem call_Iv1 : ∀ args (W : World), (callFunc 62 args).run Tryd.prog W = .ok (.enter 62 args) W := by
  intro args W
  first | (go_simp; done) | (simp [callFunc, go_sem]; done) | kernel_rfl

set_option maxHeartbeats 4000000 in
set_option maxRecDepth 100000 in
theorem impl_IntervalsOf (c n ax ay bx b_y : Int) (w : World) (hn : NoRes w) (hQ : QvP w) :
    Calls Tryd.prog 15 #[.int .i64 c, .int .i64 n, .agg #[.int .i64 ax, .int .i64 ay], .agg #[.int .i64 bx, .int .i64 b_y]] w (SaysRR (ivV c n ax ay bx b_y) (ivOk c n ax ay bx b_y) w) := by
  obtain ⟨W0, hW0⟩ : ∃ W0, ((((w.alloc (.cells #[.int .i64 c] 2)).alloc (.cells #[.int .i64 n] 2)).alloc (.cells #[.int .i64 ax, .int .i64 ay] 29)).alloc (.cells #[.int .i64 bx, .int .i64 b_y] 29)) = W0 := ⟨_, rfl⟩
  have b0 : Below w.heap.size w W0 := by rw [← hW0]; exact ((Joins.below_alloc3 w _ _ _).alloc (by first | (simp; done) | (simp; omega)) _)
  have h0 : W0.heap[w.heap.size]? = some (.cells #[.int .i64 c] 2 (0, 0)) := by
    rw [← hW0]
    rw [Below.heap_alloc _ _ _ (by first | (simp; done) | (simp; omega)), Below.heap_alloc _ _ _ (by first | (simp; done) | (simp; omega)), Below.heap_alloc _ _ _ (by simp)]; exact heap_alloc_last w _
  have h1 : W0.heap[w.heap.size + 1]? = some (.cells #[.int .i64 n] 2 (0, 0)) := by
    rw [← hW0, Below.heap_alloc _ _ _ (by first | (simp; done) | (simp; omega)), Below.heap_alloc _ _ _ (by simp)]
    exact heap_alloc2_new _ _ _
  have h2 : W0.heap[w.heap.size + 1 + 1]? = some (.cells #[.int .i64 ax, .int .i64 ay] 29 (0, 0)) := by
    rw [← hW0, Below.heap_alloc _ _ _ (by simp)]
    have := heap_alloc_last ((w.alloc (.cells #[.int .i64 c] 2)).alloc (.cells #[.int .i64 n] 2)) (.cells #[.int .i64 ax, .int .i64 ay] 29)
    simpa only [World.size_alloc] using this
  have h3 : W0.heap[w.heap.size + 1 + 1 + 1]? = some (.cells #[.int .i64 bx, .int .i64 b_y] 29 (0, 0)) := by
    rw [← hW0]
    have := heap_alloc_last (((w.alloc (.cells #[.int .i64 c] 2)).alloc (.cells #[.int .i64 n] 2)).alloc (.cells #[.int .i64 ax, .int .i64 ay] 29)) (.cells #[.int .i64 bx, .int .i64 b_y] 29)
    simpa only [World.size_alloc] using this
  have HF : At4 W0 w.heap.size (w.heap.size + 1) (w.heap.size + 1 + 1) (w.heap.size + 1 + 1 + 1) c n ax ay bx b_y :=
    ⟨cell_of_one h0, cell_of_one h1, by rw [Joins.cell_of_block h2 0]; rfl, by rw [Joins.cell_of_block h2 1]; rfl, by rw [Joins.cell_of_block h3 0]; rfl, by rw [Joins.cell_of_block h3 1]; rfl⟩
  have hmf : ∀ (fn : Fn) (first cap : Array Value) (w : World), (Instr.makeFunc fn first cap).run Tryd.prog w = .ok (.func fn first cap) w := fun _ _ _ _ => rfl
  have B0 := Lib.hid b0
  have HW := Lib.hid hW0
  cases hP : ivOk c n ax ay bx b_y with
  | true =>
    have C := Lib.hid (attemptRR_yes 62 #[.pointer (some ⟨w.heap.size, 0, none⟩), .pointer (some ⟨w.heap.size + 1, 0, none⟩), .pointer (some ⟨w.heap.size + 1 + 1, 0, none⟩), .pointer (some ⟨w.heap.size + 1 + 1 + 1, 0, none⟩)] W0 (fun u W w' => ∃ us, OwnL w' W.heap.size w'.heap.size u us (ivV c n ax ay bx b_y)) call_Iv1 (fun W hb => ivWork w.heap.size (w.heap.size + 1) (w.heap.size + 1 + 1) (w.heap.size + 1 + 1 + 1) c n ax ay bx b_y W (HF.kept hb) ((hQ.below b0).below hb) hP))
    clear hn hQ hP HF b0 h0 h1 h2 h3 hW0
    go_enter Tryd.func15, Tryd.ntmps15
    go_upto_region 1 with fail
    rw [HW.out]
    go_wp2_with fail
    refine C.out.mono ?_
    rintro e w1 ⟨ao, n', cap, w2, rfl, ⟨us, hO⟩, hb, rfl, r1, r2⟩
    have hs := B0.out.size
    have HB := Lib.hid (((B0.out.trans (hb.mono hs)).setCell (p := ⟨W0.heap.size, 0, none⟩) hs (.slice ao n' cap)).setCell (p := ⟨W0.heap.size + 1, 0, none⟩) (by show w.heap.size ≤ W0.heap.size + 1; omega) (.bool true))
    have hO2 : OwnL ((w2.setCell ⟨W0.heap.size, 0, none⟩ (.slice ao n' cap)).setCell ⟨W0.heap.size + 1, 0, none⟩ (.bool true)) w.heap.size ((w2.setCell ⟨W0.heap.size, 0, none⟩ (.slice ao n' cap)).setCell ⟨W0.heap.size + 1, 0, none⟩ (.bool true)).heap.size (.slice ao n' cap) us (ivV c n ax ay bx b_y) := by
      have h9 := OwnR.keep (w' := (w2.setCell ⟨W0.heap.size, 0, none⟩ (.slice ao n' cap)).setCell ⟨W0.heap.size + 1, 0, none⟩ (.bool true)) (show OwnR _ _ _ _ _ _ _ from hO) (fun k hk1 hk2 => by
        simp only [World.size_alloc] at hk1
        rw [Below.heap_setCell _ _ _ _ (by show k ≠ W0.heap.size + 1; omega), Below.heap_setCell _ _ _ _ (by show k ≠ W0.heap.size; omega)])
      exact h9.mono (by simp only [World.size_alloc]; omega) (by simp [World.setCell])
    have HO := Lib.hid hO2
    clear hO hO2 hb r1 r2
    go_wp2_with fail
    go_ret2
    exact ⟨_, _, rfl, HO.out, HB.out⟩
  | false =>
    have hV : ivV c n ax ay bx b_y = [] := by unfold ivV; rw [if_neg (by rw [hP]; decide)]
    rw [hV]
    have C := Lib.hid (attemptRR_no 62 #[.pointer (some ⟨w.heap.size, 0, none⟩), .pointer (some ⟨w.heap.size + 1, 0, none⟩), .pointer (some ⟨w.heap.size + 1 + 1, 0, none⟩), .pointer (some ⟨w.heap.size + 1 + 1 + 1, 0, none⟩)] W0 call_Iv1 (fun W hb => ivWork_no w.heap.size (w.heap.size + 1) (w.heap.size + 1 + 1) (w.heap.size + 1 + 1 + 1) c n ax ay bx b_y W (HF.kept hb) ((hn.below b0).below hb) hP))
    clear hn hQ hP HF b0 h0 h1 h2 h3 hW0 hV
    go_enter Tryd.func15, Tryd.ntmps15
    go_upto_region 1 with fail
    rw [HW.out]
    go_wp2_with fail
    refine C.out.mono ?_
    rintro e w1 ⟨rfl, hb⟩
    have HB := Lib.hid (B0.out.trans (hb.mono B0.out.size))
    clear hb
    go_wp2_with fail
    go_ret2
    exact ⟨_, fun _ => .slice none 0 0, rfl, OwnL.start _ _ _, HB.out⟩
end Go.Proofs.YtabkkpifkkgpeaaDoor

/- Contracts of single functions, and plain lemmas, on which the exact laws of this seat rest; each holds under the conditions that it states. -/
namespace Go.Proofs.YtabkkpifkkgpeaaDoor
set_option linter.unusedVariables false
set_option linter.unusedSimpArgs false
open Go.RowKit
attribute [local go_sem] Oper.semAt_some

/-! ### the intervals of all boxes of a size -/
def szB (c n : Nat) (a b : Int) (x y : Nat) : List (List Int) := ivL (bxF c n (x : Int) (y : Int) ((x : Int) + a - 1) ((y : Int) + b - 1)) (cvF c n).length
def szS (A : Nat) (g : Nat → Nat → Nat) : Nat → Nat
  | 0 => 0
  | k + 1 => szS A g k + g (k % A) (k / A)
theorem szS_at (A : Nat) (g : Nat → Nat → Nat) (x y : Nat) (hx : x < A) : szS A g (y * A + x + 1) = szS A g (y * A + x) + g x y := by
  show szS A g (y * A + x) + g ((y * A + x) % A) ((y * A + x) / A) = _
  have e1 : (y * A + x) % A = x := by rw [Nat.mul_comm, Nat.mul_add_mod]; exact Nat.mod_eq_of_lt hx
  have e2 : (y * A + x) / A = y := by rw [Nat.mul_comm, Nat.mul_add_div (by omega), Nat.div_eq_of_lt hx, Nat.add_zero]
  rw [e1, e2]
theorem szS_le (A : Nat) {g : Nat → Nat → Nat} (hg : ∀ x y, g x y ≤ 256) : ∀ k, szS A g k ≤ k * 256
  | 0 => Nat.le_refl _
  | k + 1 => by
    have := szS_le A hg k
    have := hg (k % A) (k / A)
    show szS A g k + g (k % A) (k / A) ≤ _
    omega
def szOk (c n a b : Int) : Bool := (inB c 0 3 && inB n 0 4) && (inB a 1 (sd n) && inB b 1 (sd n))
def szT (c n : Nat) (a b : Int) : Nat := szS (2 ^ n - (a - 1).toNat) (fun x y => (szB c n a b x y).length) ((2 ^ n - (b - 1).toNat) * (2 ^ n - (a - 1).toNat))
def szV (c n a b : Int) : Int := if szOk c n a b = true then (szT c.toNat n.toNat a b : Int) else 0
theorem szB_len (c n : Nat) (hn : n ≤ 4) (a b : Int) (x y : Nat) : (szB c n a b x y).length ≤ 256 := by
  have h1 : (cvF c n).length ≤ 256 := by rw [cvF_len]; exact Nat.mul_le_mul (pow_le16 hn) (pow_le16 hn)
  exact Nat.le_trans (ivL_len _ _) h1
theorem sd_pow {n : Nat} (hn : n ≤ 4) : sd (n : Int) = ((2 ^ n : Nat) : Int) := by
  rcases (by omega : n = 0 ∨ n = 1 ∨ n = 2 ∨ n = 3 ∨ n = 4) with rfl | rfl | rfl | rfl | rfl <;> decide +kernel

end Go.Proofs.YtabkkpifkkgpeaaDoor
