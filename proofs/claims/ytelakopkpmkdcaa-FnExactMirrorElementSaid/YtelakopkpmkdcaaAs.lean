/- Contracts of single functions, and plain lemmas, on which the exact laws of this seat rest; each holds under the conditions that it states. -/
import Derived.Test.YtelakopkpmkdcaaAn
import Derived.Test.YtelakopkpmkdcaaAA
namespace Go.Proofs.Ytelakopkpmkdcaa
set_option linter.unusedVariables false
set_option linter.unusedSimpArgs false
open Go.RowKit

theorem opposite_any (x y : Int) (w : World) (hx : -100 ≤ x ∧ x ≤ 100) (hy : -100 ≤ y ∧ y ≤ 100) :
    Calls Try.prog 56 #[.agg #[.int .i64 x, .int .i64 y]] w fun e w' => e = .returned (.agg #[.int .i64 (-x), .int .i64 (-y)]) ∧ Below w.heap.size w w' := by
  have e1 : IntKind.i64.wrap (-x) = -x := IntWalk.i64_in _ (by omega)
  have e2 : IntKind.i64.wrap (-y) = -y := IntWalk.i64_in _ (by omega)
  go_enter Try.func56, Try.ntmps56
  go_wp2
  exact bodyPost_ret (v := .agg #[.int .i64 (-x), .int .i64 (-y)]) (by simp [results, Try.results56, go_sem]) rfl ⟨rfl, Joins.below_alloc2 w _ _⟩

/-- the rule of a mirrored element -/
def miF (xs : List (Int × Int)) (x y : Int) : Bool := memB xs (-x) (-y)

set_option maxHeartbeats 2000000 in
set_option maxRecDepth 100000 in
theorem mir1_any (q b m N : Nat) (xs : List (Int × Int)) (x y : Int) (w : World) (hx : -4 ≤ x ∧ x ≤ 4) (hy : -4 ≤ y ∧ y ≤ 4) (hq : w.cell? ⟨q, 0, none⟩ = some (.map (some b))) (hs : SetS w b m N xs) :
    Calls Try.prog 55 #[.agg #[.int .i64 x, .int .i64 y], .pointer (some ⟨q, 0, none⟩)] w (SaysB (miF xs x y) w) := by
  have hb0 := Joins.below_alloc1 w (.cells #[.int .i64 x, .int .i64 y] 46)
  have ha := heap_alloc_last w (.cells #[.int .i64 x, .int .i64 y] 46)
  have HB0 := Lib.hid hb0
  have HX : Hid (∀ W, Below (w.alloc (.cells #[.int .i64 x, .int .i64 y] 46)).heap.size (w.alloc (.cells #[.int .i64 x, .int .i64 y] 46)) W → W.cell? ⟨q, 0, none⟩ = some (.map (some b)) ∧ W.cell? ⟨w.heap.size, 0, none⟩ = some (.int .i64 x) ∧ W.cell? ⟨w.heap.size, 1, none⟩ = some (.int .i64 y)) := fun W hb => ⟨cell_kept hb (cell_kept hb0 hq), cell_kept hb (by rw [Joins.cell_of_block ha 0]; rfl), cell_kept hb (by rw [Joins.cell_of_block ha 1]; rfl)⟩
  have CO := Lib.hid (fun W => opposite_any x y W (by omega) (by omega))
  have CH : Hid (∀ W, Below (w.alloc (.cells #[.int .i64 x, .int .i64 y] 46)).heap.size (w.alloc (.cells #[.int .i64 x, .int .i64 y] 46)) W → Calls Try.prog 51 #[.map (some b), .agg #[.int .i64 (-x), .int .i64 (-y)]] W (SaysB (miF xs x y) W)) := fun W hb => hasS_any b m N xs (-x) (-y) W ((hs.below hb0).below hb) (wfE (by omega) (by omega)) (wfE (by omega) (by omega))
  obtain ⟨r, hr⟩ : ∃ r, miF xs x y = r := ⟨_, rfl⟩
  rw [hr] at CH ⊢
  clear hb0 ha hs hr hq
  go_enter Try.func55, Try.ntmps55
  go_wp2_with fail
  go_region_held3 (fun w' => w'.cell? ⟨q, 0, none⟩ = some (.map (some b)) ∧ w'.cell? ⟨w.heap.size, 0, none⟩ = some (.int .i64 x) ∧ w'.cell? ⟨w.heap.size, 1, none⟩ = some (.int .i64 y))
    (first | exact HX.out _ (Below.refl _ _) | exact HX.out _ (Below.refl _ _).drew | exact HX.out _ ((Below.refl _ _).drew.trans hb7) | exact HX.out _ (((Below.refl _ _).drew.trans hb7).trans (hb8.mono hb7.size)))
    (first | (go_at_call 56; refine (CO.out _).mono ?_; rintro e w7 ⟨rfl, hb7⟩) | (go_at_call 51; refine (CH.out _ ((Below.refl _ _).drew.trans hb7)).mono ?_; rintro e w8 ⟨rfl, hb8⟩))
  have B8 : Hid (Below w.heap.size w w8) := HB0.out.trans ((((Below.refl _ _).drew.trans hb7).trans (hb8.mono hb7.size)).mono (by simp))
  clear hb7 hb8
  go_wp2
  go_ret
  exact ⟨rfl, B8.out⟩

set_option maxHeartbeats 2000000 in
set_option maxRecDepth 100000 in
theorem mirrored_any (v : Value) (xs : List (Int × Int)) (w : World) (hN : xs.length ≤ 1048576) (hwf : ∀ p ∈ xs, (Lit.int .i64 p.1).wf = true ∧ (Lit.int .i64 p.2).wf = true) (hv : SlS w v xs) :
    Calls Try.prog 43 #[.agg #[v]] w (SaysEl (elL (miF xs)) w) := by
  have HB0 := Lib.hid (Joins.below_alloc2 w (.cells #[v] 24) (.cells #[.slice none 0 0] 24))
  have hs0 : ((w.alloc (.cells #[v] 24)).alloc (.cells #[.slice none 0 0] 24)).heap.size = w.heap.size + 1 + 1 := by simp
  have hR0 := heap_alloc_last (w.alloc (.cells #[v] 24)) (.cells #[.slice none 0 0] 24)
  rw [World.size_alloc] at hR0
  have HR0 := Lib.hid hR0
  have CO := Lib.hid (offsetsOf_any v xs ((w.alloc (.cells #[v] 24)).alloc (.cells #[.slice none 0 0] 24)) hN hwf (hv.below HB0.out))
  clear hR0 hv hwf
  go_enter Try.func43, Try.ntmps43
  go_wp2_with fail
  refine CO.out.mono ?_
  rintro e w2 ⟨b, rfl, hset, hb2⟩
  have R2 := Lib.hid ((hb2.block (w.heap.size + 1) (by rw [hs0]; omega)).trans HR0.out)
  have B2 := Lib.hid (HB0.out.trans (hb2.mono (by rw [hs0]; omega)))
  have hs2 := B2.out.size
  have lR := (Array.getElem?_eq_some_iff.1 R2.out).1
  have hb3 := Joins.below_alloc1 w2 (.cells #[.map (some b)] 56)
  have hq : (w2.alloc (.cells #[.map (some b)] 56)).cell? ⟨w2.heap.size, 0, none⟩ = some (.map (some b)) := cell_of_one (heap_alloc_last w2 _)
  have C := Lib.hid (elementOf_Mir w2.heap.size (miF xs) (w2.alloc (.cells #[.map (some b)] 56)) (fun x W hb => mir1_any w2.heap.size b _ _ xs _ _ W x.2.1 x.2.2 (cell_kept hb hq) ((hset.below hb3).below hb)))
  have R3 : Hid ((w2.alloc (.cells #[.map (some b)] 56)).heap[w.heap.size + 1]? = some (.cells #[.slice none 0 0] 24 (0, 0))) := by
    show _ = _
    rw [Below.heap_alloc _ _ _ lR]; exact R2.out
  have B3 := Lib.hid (B2.out.alloc hs2 (.cells #[.map (some b)] 56))
  have hs3 : (w2.alloc (.cells #[.map (some b)] 56)).heap.size = w2.heap.size + 1 := by simp
  obtain ⟨E, hE⟩ : ∃ E, elL (miF xs) = E := ⟨_, rfl⟩
  have HE := Lib.hid hE
  rw [hE] at C
  clear hset hb2 hb3 hq hE
  go_wp2_with fail
  refine C.out.mono ?_
  rintro e w4 ⟨ao, n, cap, rfl, hown, hb4⟩
  have hp4 := (hb4.block (w.heap.size + 1) (by rw [hs3]; omega)).trans R3.out
  have hfr : w4.frozen? ⟨w.heap.size + 1, 0, none⟩ = false := free_of_one hp4
  have hc4 : w4.cell? ⟨w.heap.size + 1, 0, none⟩ = some (.slice none 0 0) := cell_of_one hp4
  have O4 := Lib.hid (own_set (u := .slice ao n cap) hown hp4 (by decide))
  have P4 := Lib.hid (one_setCell (u := .slice ao n cap) hp4)
  have B4 := Lib.hid ((B3.out.trans (hb4.mono (by rw [hs3]; omega))).setCell (p := ⟨w.heap.size + 1, 0, none⟩) (by simp) (.slice ao n cap))
  clear hown hp4 hb4
  go_wp2_with fail
  refine bodyPost_ret (results_cell1 (p := 2) (ty := 24) Try.results43 _ _ (w.heap.size + 1) 24 #[.slice ao n cap] (0, 0) _ rfl P4.out Try.underlying24 rfl infoEl) rfl ⟨ao, n, cap, rfl, ?_, B4.out⟩
  first | exact Joins.ownsRow_le O4.out (by rw [hs3]; omega) | (rw [HE.out]; exact Joins.ownsRow_le O4.out (by rw [hs3]; omega))
end Go.Proofs.Ytelakopkpmkdcaa
