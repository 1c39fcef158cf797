/- Contracts of single functions, and plain lemmas, on which the exact laws of this seat rest; each holds under the conditions that it states. -/
import Derived.Test.YtaopdhncapoefaaDoorE2
import Derived.Test.YtaopdhncapoefaaDoorR5
import Derived.Test.YtaopdhncapoefaaDoorCc
namespace Go.Proofs.YtaopdhncapoefaaDoor
set_option linter.unusedVariables false
set_option linter.unusedSimpArgs false
open Go.RowKit Go.Shelf
attribute [local go_sem] Oper.semAt_some

theorem calls_sides : ∀ args (W : World), (callFunc 37 args).run Tryd.prog W = .ok (.enter 37 args) W := enters_of Tryd.func37 (by kernel_rfl) rfl

def elN (p : Int → Int → Bool) (a b : Nat) : Nat := (sdL p a (4 * ((b + 1) * (a + 1)))).length
def elV (ss : List ByteArray) : Int := if validB ss then ((elN (pixI ss) (row0 ss).size ss.length : Nat) : Int) else 0

set_option maxRecDepth 100000 in
set_option maxHeartbeats 4000000 in
theorem impl_Edge_yes (v : Value) (M : Array Value) (a b : Nat) (g : Nat → Nat) (w : World) (hC : M = mat a b g) (ha : a ≤ 16) (hb : b ≤ 16) (hg : ∀ j, g j < 4294967296) (hone : M.all (·.oneCell') = true) (hR : RightP w)
    (C : ∀ W, Below w.heap.size w W → Calls Tryd.prog 36 #[.agg #[v]] W (fun e w' => e = .returned (.tuple #[.agg M, .bool true]) ∧ Below W.heap.size W w')) :
    Calls Tryd.prog 10 #[.agg #[v]] w (SaysIB ((elN (blackB a b g) a b : Nat) : Int) true w) := by
  refine (callsIn_wide (n := 6)).1 ?_
  have hb0 := Joins.below_alloc1 w (.cells #[v] 28)
  have HC := Lib.hid (C _ hb0)
  have hsz : M.size = 18 := by rw [hC]; rfl
  have HI : Hid ((Tryd.prog.info? 58).map (·.size) = some M.size) := by show _ = _; rw [hsz]; exact infoM
  have HZ := Lib.hid (zeros_size.trans hsz.symm)
  have HO := Lib.hid hone
  have hlw := hR.2
  have HR : Hid (∀ W, Below w.heap.size w W → RightP W) := fun W hb => hR.below hb
  have HB0 := Lib.hid hb0
  have HS := Lib.hid (fun lb hlg l J hJ hY W h0 hR hlb => sides_in M a b g hC ha hb hg lb hlg (6 - 1) (by omega) l J hJ hY W h0 hR hlb)
  have HLn : Hid ((sdL (blackB a b g) a (4 * ((b + 1) * (a + 1)))).length = elN (blackB a b g) a b) := rfl
  have hN : 4 * ((b + 1) * (a + 1)) ≤ 4 * (17 * 17) := Nat.mul_le_mul (Nat.le_refl _) (Nat.mul_le_mul (by omega) (by omega))
  obtain ⟨N, hNe⟩ : ∃ N, 4 * ((b + 1) * (a + 1)) = N := ⟨_, rfl⟩
  rw [hNe] at HS HLn hN
  obtain ⟨L, hL⟩ : ∃ L, sdL (blackB a b g) a N = L := ⟨_, rfl⟩
  rw [hL] at HS HLn
  obtain ⟨E, hE⟩ : ∃ L, elN (blackB a b g) a b = L := ⟨_, rfl⟩
  rw [hE] at HLn ⊢
  clear C hb0 hR hone hC hg hNe hL hE
  refine callsIn_of_wp_marks Tryd.func10 rfl trivial ?_ rfl
  simp only [Tryd.ntmps10, List.size_toArray, List.length_cons, List.length_nil, Nat.reduceAdd, Nat.reduceSub, Array.replicate_succ, Array.replicate_zero, List.push_toArray, List.append_toArray, List.nil_append, List.cons_append]
  gi_wp2_with (refine ⟨trivial, ?_⟩; gi_at_call 36; refine (callsIn_wide.2 HC.out).mono ?_; rintro e w1 ⟨rfl, hb1⟩; refine Hid.out ?_)
  have HB1 := Lib.hid (HB0.out.trans (hb1.mono (by simp)))
  clear hb1 HC HB0
  refine Lib.hid ?_
  gi_wp2_with (refine wpListIn_store_new w1 rfl 58 _ _ rfl M rfl rfl 58 zeros HI.out HZ.out HO.out ?_; refine Hid.out ?_)
  have H2 : Hid (((w1.alloc (.cells M 58)).alloc (.cells #[.int .i64 0] 2)).heap[w1.heap.size]? = some (.cells M 58 (0, 0))) := (Below.heap_alloc _ _ _ (by simp)).trans (heap_alloc_last w1 _)
  have H3 : Hid (((w1.alloc (.cells M 58)).alloc (.cells #[.int .i64 0] 2)).heap[w1.heap.size + 1]? = some (.cells #[.int .i64 0] 2 (0, 0))) := by
    have := heap_alloc_last (w1.alloc (.cells M 58)) (.cells #[.int .i64 0] 2)
    simp only [World.size_alloc] at this
    exact this
  have HB3 : Hid (Below w.heap.size w ((w1.alloc (.cells M 58)).alloc (.cells #[.int .i64 0] 2))) := (HB1.out.alloc HB1.out.size _).alloc (by have := HB1.out.size; simp; omega) _
  have hmf : ∀ (fn : Fn) (first cap : Array Value) (w : World), (Instr.makeFunc fn first cap).run Tryd.prog w = .ok (.func fn first cap) w := fun _ _ _ _ => rfl
  have hs1 := HB1.out.size
  refine Lib.hid ?_
  gi_wp2_with (refine wpListIn_load_row rfl 58 _ rfl w1.heap.size rfl 58 M (0, 0) _ H2.out Tryd.underlying58 rfl HI.out ?_)
  obtain ⟨W0, hW0⟩ : ∃ W0, ((w1.alloc (.cells M 58)).alloc (.cells #[.int .i64 0] 2)) = W0 := ⟨_, rfl⟩
  have hs0 : W0.heap.size = w1.heap.size + 1 + 1 := by rw [← hW0]; simp
  rw [hW0] at H3 HB3 ⊢
  clear H2 hW0
  refine rangeBound (α := Int × Int × Nat) (by omega) (gf := 37) (fs := #[.agg M]) rfl calls_sides (encs := encS) (fun _ => rfl) (lb := w1.heap.size + 1) (N := N) (T := fun xs => xs = L)
    (fun pre W => W.heap[w1.heap.size + 1]? = some (.cells #[.int .i64 (pre.length : Int)] 2 (0, 0)) ∧ Below w.heap.size w W)
    (fun pre A B h hb => ⟨(hb.block _ (Array.getElem?_eq_some_iff.1 h.1).1).trans h.1, h.2.trans (hb.mono h.2.size)⟩)
    (fun pre A l o o' h hl ho hc => ⟨(World.putObj_heap_other (by omega)).trans h.1, h.2.trans ⟨rfl, rfl, rfl, by simp, fun k hk => World.putObj_heap_other (by omega)⟩⟩)
    ?hseq ⟨H3.out, HB3.out⟩ ?hassign ?hbody ?hdone
  case hseq =>
    intro l J W hJb hJi hY h0 hle
    have hi0 := hJi _ _ h0
    exact HS.out (w1.heap.size + 1) (by omega) l J hJb (fun pre x A hj hlN => hY pre x A hj hlN) W h0 (HR.out W hi0.2) (by omega)
  case hassign =>
    intro l x W K hK
    obtain ⟨z, hz⟩ : ∃ z, encS x = #[z] := ⟨_, rfl⟩
    rw [hz] at hK ⊢
    first | (refine wpIn_skip ?_; exact hK) | (gi_wp2; first | exact hK | (simpa using hK) | (simpa [Array.zip] using hK))
  case hbody =>
    rintro l pre x W hlN ⟨h1, hB⟩
    have c1 := cell_of_one h1
    have f1 := Joins.unfrozen_of_block h1 0
    have hB' := hB.size
    have hpl : (pre.length : Int) < 1200 := by omega
    have hpl0 : (0 : Int) ≤ (pre.length : Int) := Int.natCast_nonneg _
    have hlen : (pre ++ [x]).length = pre.length + 1 := by simp
    have hset := Joins.block_setCell h1 (i := 0) (.int .i64 ((pre.length : Int) + 1))
    have HSet := Lib.hid hset
    have HH1 := Lib.hid h1
    obtain ⟨z, hz⟩ : ∃ z, encS x = #[z] := ⟨_, rfl⟩
    rw [hz]
    clear h1 hset hz
    gi_wp2
    refine ⟨(KeepsOthers.setCell W _ _).from _, Keep1.set W _, ?_, hB.setCell (p := ⟨w1.heap.size + 1, 0, none⟩) (by simp; omega) _⟩
    first | exact HSet.out | (rw [hlen]; exact HSet.out) | simpa using HSet.out
  case hdone =>
    rintro D xs W hD rfl ⟨h1, hB⟩ hK
    have c1 := cell_of_one h1
    gi_wp2
    have e0 : (xs.length : Int) = E := by rw [HLn.out]
    rw [e0]
    refine ⟨by simp, .inl ⟨_, _, rfl, run_takeDeferred hK, ?_⟩⟩
    refine ⟨_, results_tmp2 rfl _ _ _, rfl, ?_⟩
    exact hB.trans ⟨rfl, rfl, rfl, by simp, fun k hk => World.putObj_heap_other (by omega)⟩

set_option maxHeartbeats 2000000 in
set_option maxRecDepth 100000 in
theorem impl_Edge (v : Value) (ss : List ByteArray) (w : World) (hN : ss.length ≤ maxLen) (hz : ∀ s ∈ ss, s.size ≤ maxLen) (hv : Sl w v ss) (he : ErrLen w) (hR : RightP w) :
    Calls Tryd.prog 10 #[.agg #[v]] w (SaysIB (elV ss) (validB ss) w) := by
  cases hok : validB ss with
  | true =>
    have V := vp_of hok
    have e1 : elV ss = ((elN (blackB (row0 ss).size ss.length (wordsOf ss)) (row0 ss).size ss.length : Nat) : Int) := by
      have : blackB (row0 ss).size ss.length (wordsOf ss) = pixI ss := by funext x y; exact black_pix V x y
      unfold elV
      rw [hok, this]
      rfl
    rw [e1]
    refine impl_Edge_yes v (matC ss) _ _ _ w (matC_yes hok) V.w16 V.n16 (fun j => words_lt V j) (matC_one ss) hR fun W hb => ?_
    have := matrixOf_any v ss W hN hz (hv.below hb) (he.below hb)
    unfold MatOf at this
    rw [hok] at this
    exact this
  | false =>
    have hb0 := Joins.below_alloc1 w (.cells #[v] 28)
    have C := Lib.hid (matrixOf_any v ss (w.alloc (.cells #[v] 28)) hN hz (hv.below hb0) (he.below hb0))
    have hsz := matC_size ss
    have hone := matC_one ss
    unfold MatOf at C
    obtain ⟨M, hM⟩ : ∃ M, matC ss = M := ⟨_, rfl⟩
    rw [hM] at C hsz hone
    have HI : Hid ((Tryd.prog.info? 58).map (·.size) = some M.size) := by show _ = _; rw [hsz]; exact infoM
    have HZ := Lib.hid (zeros_size.trans hsz.symm)
    have HO := Lib.hid hone
    have e1 : Hid (elV ss = 0) := by show elV ss = _; unfold elV; rw [hok]; rfl
    have HOk := Lib.hid hok
    clear hM hsz hone hb0 hv he hok hR
    go_enter Tryd.func10, Tryd.ntmps10
    go_wp2_with fail
    refine C.out.mono ?_
    rintro e w1 ⟨rfl, hb⟩
    rw [HOk.out]
    have HB := Lib.hid hb
    clear hb
    go_wp2_with (refine wpList_store_row rfl 58 _ _ rfl w1.heap.size M rfl rfl 58 zeros (heap_alloc_last w1 _) HI.out HZ.out HO.out ?_)
    go_ret2
    have h1 : Below w.heap.size w w1 := (Joins.below_alloc1 w _).trans (HB.out.mono (by simp))
    exact ⟨ret_ib e1.out.symm rfl, setRow_below (h1.alloc h1.size _) h1.size _⟩
end Go.Proofs.YtaopdhncapoefaaDoor
