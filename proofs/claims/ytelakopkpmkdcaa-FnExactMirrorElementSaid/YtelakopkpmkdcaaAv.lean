/- Contracts of single functions, and plain lemmas, on which the exact laws of this seat rest; each holds under the conditions that it states. -/
import Derived.Test.YtelakopkpmkdcaaAt
import Derived.Test.YtelakopkpmkdcaaAc
import Derived.BigRegion
import Derived.Deep.RegionWith
namespace Go.Proofs.Ytelakopkpmkdcaa
set_option linter.unusedVariables false
set_option linter.unusedSimpArgs false
open Go.RowKit

theorem own_len {w : World} {base g n cap : Nat} {xs : List (Int × Int)} (h : OwnS w base (.slice (some ⟨g, 0, none⟩) n cap) xs) : n = xs.length := by
  rcases h.2 with ⟨h1, _⟩ | ⟨g', c', cur, h1, _⟩
  · cases h1
  · cases h1; rfl
theorem ElSt.start2 {w w1 : World} {R : Nat} (hR : w1.heap[R]? = some (.cells #[.slice none 0 0] 24 (0, 0))) (hb : Below w.heap.size w w1) (hge : w.heap.size ≤ R) :
    ElSt w ((w1.alloc (.cells #[] 46)).alloc (.cells #[.slice (some ⟨w1.heap.size, 0, none⟩) 0 0] 24)) R (w1.heap.size + 1) (.slice (some ⟨w1.heap.size, 0, none⟩) 0 0) [] := by
  have lR := (Array.getElem?_eq_some_iff.1 hR).1
  refine ⟨?_, ?_, ?_, (hb.alloc hb.size _).alloc (by simp; have := hb.size; omega) _, by have := hb.size; omega, hge, by omega⟩
  · rw [Below.heap_alloc _ _ _ (by simp; omega), Below.heap_alloc _ _ _ lR]; exact hR
  · have := heap_alloc_last (w1.alloc (.cells #[] 46)) (.cells #[.slice (some ⟨w1.heap.size, 0, none⟩) 0 0] 24)
    rwa [World.size_alloc] at this
  · have := World.ownsRow_lit (base := w.heap.size) (e := 46) (size := 2) w1 #[] 0 hb.size (by unfold maxLen; omega) rfl
    exact World.ownsRow.alloc this _

set_option maxHeartbeats 4000000 in
set_option maxRecDepth 100000 in
theorem spec_Mirror (v : Value) (xs : List (Int × Int)) (w : World) (hN : xs.length ≤ 1048576) (hv : SlS w v xs) :
    Calls Try.prog 20 #[.agg #[v]] w (SaysElB (miV xs) (elB xs) w) := by
  have HB0 := Lib.hid (Joins.below_alloc2 w (.cells #[v] 24) (.cells #[.slice none 0 0] 24))
  have hs0 : ((w.alloc (.cells #[v] 24)).alloc (.cells #[.slice none 0 0] 24)).heap.size = w.heap.size + 1 + 1 := by simp
  have hR0 := heap_alloc_last (w.alloc (.cells #[v] 24)) (.cells #[.slice none 0 0] 24)
  have hE0 : ((w.alloc (.cells #[v] 24)).alloc (.cells #[.slice none 0 0] 24)).heap[w.heap.size]? = some (.cells #[v] 24 (0, 0)) := by
    rw [Below.heap_alloc _ _ _ (by simp)]; exact heap_alloc_last w _
  rw [World.size_alloc] at hR0
  have HR0 := Lib.hid hR0
  have HE0 := Lib.hid hE0
  have HV : Hid (∀ W, Below w.heap.size w W → SlS W v xs) := fun W hb => hv.below hb
  have CI := Lib.hid (l03Is_any w.heap.size v xs _ hE0 hN (hv.below HB0.out))
  have HMV : Hid (miV xs = if elB xs = true then elL (miF xs) else []) := rfl
  have HRange := Lib.hid (fun (h : elB xs = true) j (hj : j < xs.length) => by
    unfold elB at h
    rw [Bool.and_eq_true] at h
    have := List.all_eq_true.1 h.1 j (List.mem_range.2 hj)
    unfold stepOk at this
    rw [Bool.and_eq_true] at this
    exact (okO_iff _).1 this.1)
  have HLen : Hid (elB xs = true → xs.length ≤ 50) := fun h => by
    by_cases e : xs.length ≤ 50
    · exact e
    · rw [elB_long e] at h; cases h
  have HAll := Lib.hid (fun ys (h : Opp xs xs.length ys) (hok : elB xs = true) => h.all hok)
  obtain ⟨ao, cap, rfl, hsp⟩ := sl_form hv
  have HSp : Hid (∀ W, Below w.heap.size w W → 0 < xs.length → ∃ b, ao = some ⟨b, 0, none⟩ ∧ Spots W b xs) := fun W hb h => by
    obtain ⟨b, e, hs⟩ := hsp h
    exact ⟨b, e, hs.below hb⟩
  obtain ⟨ok, hok⟩ : ∃ ok, elB xs = ok := ⟨_, rfl⟩
  rw [hok] at CI HMV HRange HLen HAll ⊢
  obtain ⟨n, hn⟩ : ∃ n, xs.length = n := ⟨_, rfl⟩
  have Hn := Lib.hid hn
  rw [hn] at HRange HLen HAll HSp CI HE0 HB0 HR0 HV hs0
  rw [hn]
  clear hR0 hE0 hv hok hn hsp
  go_enter Try.func20, Try.ntmps20
  go_wp2_with fail
  refine CI.out.mono ?_
  rintro e w1 ⟨rfl, hb1⟩
  have B1 := Lib.hid (HB0.out.trans (hb1.mono (by rw [hs0]; omega)))
  have R1 := Lib.hid ((hb1.block (w.heap.size + 1) (by rw [hs0]; omega)).trans HR0.out)
  have E1 := Lib.hid ((hb1.block w.heap.size (by rw [hs0]; omega)).trans HE0.out)
  clear hb1
  have hfr : w1.frozen? ⟨w.heap.size + 1, 0, none⟩ = false := free_of_one R1.out
  have hc1 : w1.cell? ⟨w.heap.size + 1, 0, none⟩ = some (.slice none 0 0) := cell_of_one R1.out
  have lR := (Array.getElem?_eq_some_iff.1 R1.out).1
  cases ok with
  | false =>
    have HM0 : Hid (miV xs = []) := HMV.out
    go_wp2_with fail
    refine bodyPost_ret (v := .tuple #[.agg #[.slice none 0 0], .bool false]) (by simp [results, Try.results20, go_sem, cell_of_one (one_setCell (u := .slice none 0 0) R1.out), cell_of_one R1.out]) rfl ⟨none, 0, 0, rfl, by rw [HM0.out]; exact World.ownsRow_nil _ _ _ _, by first | exact B1.out | exact B1.out.setCell (p := ⟨w.heap.size + 1, 0, none⟩) (by simp) _⟩
  | true =>
    have HM0 : Hid (miV xs = elL (miF xs)) := HMV.out
    have hlen := HLen.out (by trivial)
    have I0 := Lib.hid (ElSt.start2 R1.out B1.out (by omega))
    have E0 : Hid (((w1.alloc (.cells #[] 46)).alloc (.cells #[.slice (some ⟨w1.heap.size, 0, none⟩) 0 0] 24)).heap[w.heap.size]? = some (.cells #[.slice ao n cap] 24 (0, 0))) := by
      show _ = _
      rw [Below.heap_alloc _ _ _ (by simp; omega), Below.heap_alloc _ _ _ (by omega)]; exact E1.out
    clear HE0 HR0 HB0 R1 E1 hfr hc1
    go_wp2_with fail
    go_loopw [5] (fun iv wr => ∃ (k g cap' : Nat) (ys : List (Int × Int)), k ≤ n ∧ iv = .int .i64 k ∧ Hid (ElSt w wr (w.heap.size + 1) (w1.heap.size + 1) (.slice (some ⟨g, 0, none⟩) ys.length cap') ys) ∧ Hid (Opp xs k ys) ∧ Hid (wr.heap[w.heap.size]? = some (.cells #[.slice ao n cap] 24 (0, 0)))) (fun iv _ => n - (intOf iv).toNat)
    case atStart => exact ⟨0, w1.heap.size, 0, [], Nat.zero_le _, rfl, I0.out, Opp.zero xs, E0.out⟩
    case round =>
      clear I0 E0
      obtain ⟨k, g, cap', ys, hk, rfl, HS, HOp, HE⟩ := hrel
      have e0 := cell_of_one HE.out
      have lE := (Array.getElem?_eq_some_iff.1 HE.out).1
      have b0 := HS.out.cell
      have lB := HS.out.ltB
      have hsz := HS.out.bel.size
      by_cases hlt : k < n
      · have klt : (k : Int) < (n : Int) := by omega
        obtain ⟨b, rfl, hbl, hcs⟩ := HSp.out _ HS.out.bel (by omega)
        have c0 := (hcs k (by rw [Hn.out]; exact hlt)).1
        have c1 := (hcs k (by rw [Hn.out]; exact hlt)).2
        obtain ⟨⟨r1, r2⟩, r3, r4⟩ := HRange.out trivial k hlt
        have HSn := Lib.hid (fun zs => @Opp.snoc xs ys zs k HOp.out)
        obtain ⟨x, hx⟩ : ∃ x, (xs.getD k (0, 0)).1 = x := ⟨_, rfl⟩
        obtain ⟨y, hy⟩ : ∃ y, (xs.getD k (0, 0)).2 = y := ⟨_, rfl⟩
        rw [hx] at c0 r1 r2 HSn
        rw [hy] at c1 r3 r4 HSn
        have HSd := Lib.hid (HS.out.below (Below.refl _ _).drew)
        have CP := Lib.hid (l03Put_any w.heap.size g cap' ys (-x) (-y) wr.drew HOp.out.1 (by have := HOp.out.2.1; omega) HSd.out.own)
        have HEd : Hid (wr.drew.heap[w.heap.size]? = some (.cells #[.slice (some ⟨b, 0, none⟩) n cap] 24 (0, 0))) := HE.out
        have e1 : IntKind.i64.wrap (-x) = -x := IntWalk.i64_in _ (by omega)
        have e2 : IntKind.i64.wrap (-y) = -y := IntWalk.i64_in _ (by omega)
        have hne : w.heap.size ≠ w1.heap.size + 1 := by omega
        clear hx hy hcs HOp
        go_wp2_with fail
        go_region_with (go_at_call 42; refine CP.out.mono ?_; rintro e w3 ⟨g', n', c3, zs, rfl, hsz3, hmz, hlz, hoz, hgz⟩; obtain ⟨hb3, hS3⟩ := HSd.out.put hoz hgz; have hc3 := cell_of_one hb3; have hf3 := free_of_one hb3; have hE3 := var_far HEd.out HSd.out.own (by decide) hgz)
        all_goals go_wp2
        all_goals (
          have hn' := own_len hoz
          subst hn'
          refine ⟨⟨k + 1, g', c3, zs, by omega, by go_num, ?_, HSn.out zs hsz3 hlz hmz, ?_⟩, by simp [intOf]; omega⟩
          · first | exact hS3 | exact hS3.below (Below.refl _ _).drew
          · first | exact (Below.heap_setCell _ _ _ _ hne).trans hE3)
      · obtain rfl : k = n := by omega
        have HA := Lib.hid (HAll.out ys HOp.out trivial)
        have cR := HS.out.cellR
        have fR := HS.out.frR
        have HO := Lib.hid (HS.out.own_out (.slice (some ⟨g, 0, none⟩) ys.length cap'))
        have HR := Lib.hid (one_setCell (u := .slice (some ⟨g, 0, none⟩) ys.length cap') HS.out.r)
        have HB := Lib.hid (HS.out.bel.setCell (p := ⟨w.heap.size + 1, 0, none⟩) (by simp) (.slice (some ⟨g, 0, none⟩) ys.length cap'))
        clear HS HOp
        go_wp2_with fail
        refine bodyPost_ret (v := .tuple #[.agg #[.slice (some ⟨g, 0, none⟩) ys.length cap'], .bool true]) (by simp [results, Try.results20, go_sem, cell_of_one HR.out]) rfl ⟨_, _, _, rfl, by rw [HM0.out, ← HA.out]; exact HO.out, HB.out⟩
end Go.Proofs.Ytelakopkpmkdcaa
