/- Contracts of single functions, and plain lemmas, on which the exact laws of this seat rest; each holds under the conditions that it states. -/
import Derived.Test.YtakaglbbcaplhaaDoorD9
namespace Go.Proofs.YtakaglbbcaplhaaDoor
set_option linter.unusedVariables false
set_option linter.unusedSimpArgs false
open Go.RowKit
attribute [local go_sem] Oper.semAt_some

def neOk (ss : List ByteArray) (k x y : Int) : Bool := someBl ss k && insB (row0 ss).size ss.length x y
def neV (ss : List ByteArray) (k x y : Int) : Int × Int := if neOk ss k x y = true then (nrL k x y (bl ss)).1 else (0, 0)
/-- a spot and a bool -/
def SaysSOk (q : Int × Int) (ok : Bool) (w : World) (e : Ending) (w' : World) : Prop := e = .returned (.tuple #[.agg #[.int .i64 q.1, .int .i64 q.2], .bool ok]) ∧ Below w.heap.size w w'
theorem ins_small {a b : Nat} {x y : Int} (ha : a ≤ 16) (hb : b ≤ 16) (h : insB a b x y = true) : Small x ∧ Small y := by
  unfold insB inB at h
  unfold Small
  simp at h
  omega

set_option maxHeartbeats 4000000 in
set_option maxRecDepth 100000 in
theorem spec_NearestOf (v : Value) (ss : List ByteArray) (k x y : Int) (w : World) (hN : ss.length ≤ maxLen) (hz : ∀ s ∈ ss, s.size ≤ maxLen) (hv : Sl w v ss) :
    Calls Tryd.prog 43 #[.agg #[v], .int .i64 k, .agg #[.int .i64 x, .int .i64 y]] w (SaysSOk (neV ss k x y) (neOk ss k x y) w) := by
  obtain ⟨W0, hW0⟩ : ∃ W0, (((w.alloc (.cells #[v] 29)).alloc (.cells #[.int .i64 x, .int .i64 y] 31)).alloc (.cells #[.int .i64 0, .int .i64 0] 31)) = W0 := ⟨_, rfl⟩
  have b0 : Below w.heap.size w W0 := by rw [← hW0]; exact Joins.below_alloc3 _ _ _ _
  have hs0 : W0.heap.size = w.heap.size + 1 + 1 + 1 := by rw [← hW0]; simp
  have hp0 : W0.heap[w.heap.size]? = some (.cells #[v] 29 (0, 0)) := by
    rw [← hW0, Below.heap_alloc _ _ _ (by simp; omega), Below.heap_alloc _ _ _ (by simp)]; exact heap_alloc_last w _
  have ha0 : Var2 W0 (w.heap.size + 1) (x, y) := by
    show _ = _
    rw [← hW0, Below.heap_alloc _ _ _ (by simp)]
    exact heap_alloc2_new _ _ _
  have hr0 : Var2 W0 (w.heap.size + 1 + 1) (0, 0) := by
    show _ = _
    rw [← hW0]
    have := heap_alloc_last ((w.alloc (.cells #[v] 29)).alloc (.cells #[.int .i64 x, .int .i64 y] 31)) (.cells #[.int .i64 0, .int .i64 0] 31)
    simpa only [World.size_alloc] using this
  have hc0 := cell_of_one hp0
  have C1 := Lib.hid (l06Some_any w.heap.size 0 v ss k W0 hc0 (hv.below b0) hN hz)
  have HP : Hid (someBl ss k = true → ∀ W, Below W0.heap.size W0 W → PicAt W w.heap.size 0 ss) := fun h W hb => by
    have hok : validB ss = true := by unfold someBl askB at h; simp at h; exact h.1.1
    exact ⟨hok, v, cell_kept hb hc0, (hv.below b0).below hb⟩
  have C2 : Hid (∀ W, PicAt W w.heap.size 0 ss → Calls Tryd.prog 101 #[.pointer (some ⟨w.heap.size, 0, none⟩), .int .i64 x, .int .i64 y] W fun e w' => e = .returned (.bool (insB (row0 ss).size ss.length x y)) ∧ W = w') := fun W h => l01Has_any w.heap.size 0 ss x y W h
  have C3 : Hid (insB (row0 ss).size ss.length x y = true → ∀ W, PicAt W w.heap.size 0 ss → Calls Tryd.prog 102 #[.pointer (some ⟨w.heap.size, 0, none⟩), .int .i64 k, .int .i64 x, .int .i64 y] W (fun e w' => e = .returned (.tuple #[.agg #[.int .i64 (nrL k x y (bl ss)).1.1, .int .i64 (nrL k x y (bl ss)).1.2], .int .i64 (nrL k x y (bl ss)).2]) ∧ Below W.heap.size W w')) := fun h W hp => by
    have V := vp_of hp.ok
    have hsm := ins_small V.w16 V.n16 h
    exact l06Nearest_any w.heap.size 0 ss k x y W hp hsm.1 hsm.2
  have HO : Hid (neOk ss k x y = (someBl ss k && insB (row0 ss).size ss.length x y)) := rfl
  have HV : Hid (neV ss k x y = if neOk ss k x y = true then (nrL k x y (bl ss)).1 else (0, 0)) := rfl
  obtain ⟨sb, hsb⟩ : ∃ b, someBl ss k = b := ⟨_, rfl⟩
  obtain ⟨ib, hib⟩ : ∃ b, insB (row0 ss).size ss.length x y = b := ⟨_, rfl⟩
  rw [hsb] at C1 HP HO
  rw [hib] at C2 C3 HO
  obtain ⟨r, hr⟩ : ∃ r, nrL k x y (bl ss) = r := ⟨_, rfl⟩
  rw [hr] at C3 HV
  obtain ⟨⟨p, q⟩, l⟩ := r
  have B0 := Lib.hid b0
  have HW := Lib.hid hW0
  have HA := Lib.hid ha0
  have HR0 := Lib.hid hr0
  have l0 : w.heap.size + 1 + 1 < W0.heap.size := by omega
  clear b0 hW0 hp0 ha0 hr0 hc0 hv hsb hib hr hs0
  go_enter Tryd.func43, Tryd.ntmps43
  go_wp2_with fail
  rw [HW.out]
  refine C1.out.mono ?_
  rintro e w1 ⟨rfl, hb1⟩
  have V1 := Lib.hid hb1
  have B1 := Lib.hid (B0.out.trans (hb1.mono B0.out.size))
  have l1 : w.heap.size + 1 + 1 < w1.heap.size := Nat.lt_of_lt_of_le l0 hb1.size
  have HRa := Lib.hid (HR0.out.below hb1)
  have HAa := Lib.hid (HA.out.below hb1)
  have a0 := HAa.out.c0
  have a1 := HAa.out.c1
  have r0 := HRa.out.c0
  have r1 := HRa.out.c1
  have f0 := two_free HRa.out 0
  have f1 := two_free HRa.out 1
  clear hb1 HA HR0 C1
  cases sb with
  | false =>
    have HR : Hid (neOk ss k x y = false) := HO.out
    have HR2 : Hid (neV ss k x y = (0, 0)) := by show _ = _; rw [HV.out, HR.out]; rfl
    clear HO HV C2 C3 HP
    go_wp2_with fail
    rw [HR.out, HR2.out]
    exact bodyPost_ret (results_cell_tmp Tryd.results43 _ _ (w.heap.size + 1 + 1) 31 _ (0, 0) _ rfl (HRa.out.upd _ _) Tryd.underlying31 rfl infoSp1) rfl ⟨rfl, (B1.out.setCell (p := ⟨w.heap.size + 1 + 1, 0, none⟩) (by simp; omega) _).setCell (p := ⟨w.heap.size + 1 + 1, 1, none⟩) (by simp; omega) _⟩
  | true =>
    have HPa := Lib.hid (HP.out (by trivial))
    have C2a := Lib.hid (C2.out w1 (HPa.out w1 V1.out))
    clear C2 HP
    go_wp2_with fail
    refine C2a.out.mono ?_
    rintro e w' ⟨rfl, rfl⟩
    cases ib with
    | false =>
      have HR : Hid (neOk ss k x y = false) := HO.out
      have HR2 : Hid (neV ss k x y = (0, 0)) := by show _ = _; rw [HV.out, HR.out]; rfl
      clear HO HV C3 C2a
      go_wp2_with fail
      rw [HR.out, HR2.out]
      exact bodyPost_ret (results_cell_tmp Tryd.results43 _ _ (w.heap.size + 1 + 1) 31 _ (0, 0) _ rfl (HRa.out.upd _ _) Tryd.underlying31 rfl infoSp1) rfl ⟨rfl, (B1.out.setCell (p := ⟨w.heap.size + 1 + 1, 0, none⟩) (by simp; omega) _).setCell (p := ⟨w.heap.size + 1 + 1, 1, none⟩) (by simp; omega) _⟩
    | true =>
      have HR : Hid (neOk ss k x y = true) := HO.out
      have HR2 : Hid (neV ss k x y = (p, q)) := by show _ = _; rw [HV.out, HR.out]; rfl
      have C3a := Lib.hid (C3.out (by trivial) w1 (HPa.out w1 V1.out))
      clear HO HV C3 C2a
      go_wp2_with fail
      refine C3a.out.mono ?_
      rintro e w2 ⟨rfl, hb2⟩
      have B2 := Lib.hid (B1.out.trans (hb2.mono B1.out.size))
      have l2 : w.heap.size + 1 + 1 < w2.heap.size := Nat.lt_of_lt_of_le l1 hb2.size
      have HRb := Lib.hid (HRa.out.below hb2)
      have HN : Hid (Var2 (w2.alloc (.cells #[.int .i64 p, .int .i64 q] 31)) w2.heap.size (p, q)) := heap_alloc_last w2 _
      have n0 := HN.out.c0
      have n1 := HN.out.c1
      have g0 := two_free HRb.out 0
      have g1 := two_free HRb.out 1
      have z0 := HRb.out.c0
      have z1 := HRb.out.c1
      clear hb2 a0 a1 r0 r1 f0 f1 C3a HRa HAa
      go_wp2_with fail
      rw [HR.out, HR2.out]
      exact bodyPost_ret (results_cell_tmp Tryd.results43 _ _ (w.heap.size + 1 + 1) 31 _ (0, 0) _ rfl ((HRb.out.upd p q).below (Joins.below_alloc1 _ _)) Tryd.underlying31 rfl infoSp1) rfl ⟨rfl, ((B2.out.setCell (p := ⟨w.heap.size + 1 + 1, 0, none⟩) (by simp; omega) _).setCell (p := ⟨w.heap.size + 1 + 1, 1, none⟩) (by simp; omega) _).alloc (by simp; omega) _⟩
end Go.Proofs.YtakaglbbcaplhaaDoor
