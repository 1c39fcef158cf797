/- Contracts of single functions, and plain lemmas, on which the exact laws of this seat rest; each holds under the conditions that it states. -/
import Derived.Test.YtakaglbbcaplhaaDoorW6
import Derived.Test.YtakaglbbcaplhaaDoorQc
namespace Go.Proofs.YtakaglbbcaplhaaDoor
set_option linter.unusedVariables false
set_option linter.unusedSimpArgs false
open Go.RowKit

theorem spL_in (f : Nat → Nat → Bool) (wd n : Nat) (hw : 1 ≤ wd) (q : Int × Int) (h : q ∈ spL f wd (wd * n)) : (0 ≤ q.1 ∧ q.1 < (wd : Int)) ∧ (0 ≤ q.2 ∧ q.2 < (n : Int)) := by
  unfold spL at h
  obtain ⟨i, hi, e⟩ := List.mem_filterMap.1 h
  rw [List.mem_range] at hi
  split at e
  · obtain rfl := Option.some.inj e
    have h1 : i % wd < wd := Nat.mod_lt _ hw
    have h2 : i / wd < n := Nat.div_lt_of_lt_mul hi
    exact ⟨⟨Int.natCast_nonneg _, Int.ofNat_lt.2 h1⟩, Int.natCast_nonneg _, Int.ofNat_lt.2 h2⟩
  · cases e
theorem Spots.other {W : World} {sb g : Nat} {L : List (Int × Int)} (h : Spots W sb L) (hne : sb ≠ g) (j : Nat) (v : Value) : Spots (W.setCell ⟨g, j, none⟩ v) sb L := by
  have hb : (W.setCell ⟨g, j, none⟩ v).heap[sb]? = W.heap[sb]? := heap_setCell_other W ⟨g, j, none⟩ sb v (fun e => hne e)
  refine ⟨by have := h.1; simpa using this, fun i hi => ⟨?_, ?_⟩⟩
  · rw [World.cell?_of_block hb]; exact (h.2 i hi).1
  · rw [World.cell?_of_block hb]; exact (h.2 i hi).2
/-- the cells of a row of bools -/
def BoolsAt (W : World) (gl N : Nat) (q : Nat → Bool) : Prop := gl < W.heap.size ∧ ∀ k, k < N → W.cell? ⟨gl, k, none⟩ = some (.bool (q k))
theorem BoolsAt.other {W : World} {gl N g : Nat} {q : Nat → Bool} (h : BoolsAt W gl N q) (hne : gl ≠ g) (j : Nat) (v : Value) : BoolsAt (W.setCell ⟨g, j, none⟩ v) gl N q := by
  have hb : (W.setCell ⟨g, j, none⟩ v).heap[gl]? = W.heap[gl]? := heap_setCell_other W ⟨g, j, none⟩ gl v (fun e => hne e)
  refine ⟨by have := h.1; simpa using this, fun k hk => ?_⟩
  rw [World.cell?_of_block hb]
  exact h.2 k hk

theorem labL_len (ps : List (Nat → Bool)) (N : Nat) : (labL ps N).length = N := by simp [labL]
theorem labM_len (ps : List (Nat → Bool)) (q : Nat → Bool) (t N : Nat) : (labM ps q t N).length = N := by simp [labM]
open Classical in
/-- the list of a part, as a row of bools -/
theorem part_list (ss : List ByteArray) (V : VP ss) (e8 : Bool) (x y : Int) (bs : List Bool)
    (hr : ∀ X Y : Nat, X < (row0 ss).size → Y < ss.length → (bs.getD (Y * (row0 ss).size + X) false = true ↔ Reach (pixI ss) (stepL e8) [(x, y)] ((X : Int), (Y : Int)))) :
    pixL (mkPic (row0 ss).size ss.length (fun Y X => bs.getD (Y * (row0 ss).size + X) false)) (row0 ss).size ((row0 ss).size * ss.length) = (List.range ((row0 ss).size * ss.length)).map (partP (pixI ss) (stepL e8) (row0 ss).size (x, y)) := by
  unfold pixL
  refine List.map_congr_left fun k hk => ?_
  rw [List.mem_range] at hk
  have h1 : k % (row0 ss).size < (row0 ss).size := Nat.mod_lt _ V.w1
  have h2 : k / (row0 ss).size < ss.length := Nat.div_lt_of_lt_mul hk
  rw [mkPic_pix _ _ _ h2 h1]
  unfold partP
  have := hr _ _ h1 h2
  cases e : bs.getD (k / (row0 ss).size * (row0 ss).size + k % (row0 ss).size) false with
  | true => rw [e] at this; exact (decide_eq_true (this.1 rfl)).symm
  | false =>
    rw [e] at this
    have hn : ¬ Reach (pixI ss) (stepL e8) [(x, y)] (((k % (row0 ss).size : Nat) : Int), ((k / (row0 ss).size : Nat) : Int)) := fun h => by
      have := this.2 h
      cases this
    exact (decide_eq_false hn).symm

end Go.Proofs.YtakaglbbcaplhaaDoor
