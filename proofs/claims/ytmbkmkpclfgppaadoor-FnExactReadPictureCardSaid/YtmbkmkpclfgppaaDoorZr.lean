/- Contracts of single functions, and plain lemmas, on which the exact laws of this seat rest; each holds under the conditions that it states. -/
import Derived.Test.YtmbkmkpclfgppaaDoorZa
import Derived.Test.YtmbkmkpclfgppaaDoorZc
import Derived.Test.YtmbkmkpclfgppaaDoorZh
import Derived.Test.YtmbkmkpclfgppaaDoorMc
namespace Go.Proofs.YtmbkmkpclfgppaaDoor
set_option linter.unusedVariables false
set_option linter.unusedSimpArgs false
open Go.RowKit

/-! ### the rows of a text -/
theorem pix_no47 {c : UInt8} (h : pixB c = true) : c ≠ 47 := fun e => by rw [e] at h; exact absurd h (by decide)
theorem cutP_head : ∀ (l acc : List UInt8), ∃ r, cutAP acc l = (acc ++ l.takeWhile (· != 47)) :: r
  | [], acc => ⟨[], by simp [cutAP]⟩
  | c :: l, acc => by
    by_cases h : c = 47
    · exact ⟨cutAP [] l, by rw [cutAP, if_pos h, List.takeWhile_cons_of_neg (by simp [h]), List.append_nil]⟩
    · obtain ⟨r, hr⟩ := cutP_head l (acc ++ [c])
      exact ⟨r, by rw [cutAP, if_neg h, hr, List.takeWhile_cons_of_pos (by simp [h])]; simp⟩
theorem tw_get : ∀ (l : List UInt8) (x : Nat), (∀ j : Nat, j ≤ x → l[j]? ≠ some (47 : UInt8)) → (l.takeWhile (· != 47))[x]? = l[x]?
  | [], x, _ => by simp
  | c :: l, x, h => by
    have h0 : ¬ c = 47 := fun e => h 0 (Nat.zero_le _) (by rw [e]; rfl)
    rw [List.takeWhile_cons_of_pos (by simp [h0])]
    cases x with
    | zero => rfl
    | succ x =>
      show (l.takeWhile (· != 47))[x]? = l[x]?
      exact tw_get l x fun j hj => h (j + 1) (by omega)
theorem toLP_get (s : ByteArray) (j : Nat) (hj : j < s.size) : (toLP s)[j]? = some s[j] := by
  rw [List.getElem?_eq_getElem (by rw [toL_lenP]; exact hj)]
  rfl
theorem toLP_get_le (s : ByteArray) (j : Nat) (c : UInt8) (h : (toLP s)[j]? = some c) : ∃ hj : j < s.size, s[j] = c := by
  have hj : j < s.size := by
    apply Nat.lt_of_not_le
    intro hle
    rw [List.getElem?_eq_none (by rw [toL_lenP]; exact hle)] at h
    cases h
  rw [toLP_get s j hj] at h
  exact ⟨hj, Option.some.inj h⟩
/-- how far the text is cut -/
def RowI (s : ByteArray) (done : List ByteArray) (rest : ByteArray) : Prop := cutAP [] (toLP s) = done.map toLP ++ cutAP [] (toLP rest) ∧ rest.size ≤ s.size
theorem bad_piece {s : ByteArray} {done : List ByteArray} {rest : ByteArray} (H : RowI s done rest) (h : ∀ p, toLP p = (toLP rest).takeWhile (· != 47) → ¬ goodRow p) : validB (piecesP s) = false := by
  obtain ⟨r, hr⟩ := cutP_head (toLP rest) []
  have hp := pieces_toLP s
  rw [H.1, hr, List.nil_append] at hp
  have hk : done.length < (piecesP s).length := by
    have := congrArg List.length hp
    simp at this; omega
  refine row_size_no hk fun hh => h _ ?_ hh.1
  have hg : ((piecesP s).map toLP)[done.length]? = (done.map toLP ++ (toLP rest).takeWhile (· != 47) :: r)[done.length]? := by rw [hp]
  rw [List.getElem?_append_right (by simp), List.length_map, Nat.sub_self, List.getElem?_cons_zero, List.getElem?_map, List.getElem?_eq_getElem hk] at hg
  rw [List.getD_eq_getElem?_getD, List.getElem?_eq_getElem hk]
  exact Option.some.inj hg
theorem strange_bad {s : ByteArray} {done : List ByteArray} {rest : ByteArray} {x r : Nat} (H : RowI s done rest) (hs : Strange rest x r) (hr : ¬ r = 47) : validB (piecesP s) = false := by
  obtain ⟨_, ⟨hx, hpx, h47, _⟩, hj⟩ := hs
  refine bad_piece H fun p hp hg => ?_
  have hno : ∀ j : Nat, j ≤ x → (toLP rest)[j]? ≠ some (47 : UInt8) := fun j hjx => by
    rw [toLP_get rest j (by omega)]
    intro e
    have e := Option.some.inj e
    by_cases e2 : j = x
    · subst e2; exact hr (h47 (by rw [e]; rfl))
    · exact pix_no47 (hj j (by omega) (by omega)) e
  have hg2 : (toLP p)[x]? = some rest[x] := by rw [hp, tw_get _ _ hno, toLP_get rest x hx]
  obtain ⟨hxp, e⟩ := toLP_get_le p x _ hg2
  have := hg.2.2 x hxp
  rw [e, hpx] at this
  cases this
theorem long_bad {s : ByteArray} {done : List ByteArray} {rest : ByteArray} (H : RowI s done rest) (hl : LongRow rest) : validB (piecesP s) = false := by
  refine bad_piece H fun p hp hg => ?_
  rcases hl with h0 | ⟨h16, hj⟩
  · have : toLP rest = [] := List.length_eq_zero_iff.1 (by rw [toL_lenP]; exact h0)
    have hp0 : toLP p = [] := by rw [hp, this]; rfl
    have h2 := toL_lenP p
    rw [hp0] at h2
    have h1 := hg.1
    simp only [List.length_nil] at h2
    omega
  · have hno : ∀ j : Nat, j ≤ 16 → (toLP rest)[j]? ≠ some (47 : UInt8) := fun j hjx => by
      rw [toLP_get rest j (by omega)]
      exact fun e => pix_no47 (hj j (by omega) (by omega)) (Option.some.inj e)
    have hg2 : (toLP p)[16]? = some rest[16] := by rw [hp, tw_get _ _ hno, toLP_get rest 16 h16]
    obtain ⟨hxp, _⟩ := toLP_get_le p 16 _ hg2
    have h1 := hg.2.1
    omega
theorem many_bad {s : ByteArray} {done : List ByteArray} {rest : ByteArray} (H : RowI s done rest) (h : done.length = 16) : validB (piecesP s) = false := by
  obtain ⟨r, hr⟩ := cutP_head (toLP rest) []
  have hp := pieces_toLP s
  rw [H.1, hr] at hp
  have hl := congrArg List.length hp
  simp at hl
  unfold validB
  rw [show decide ((piecesP s).length ≤ 16) = false from decide_eq_false (by omega)]
  simp
theorem good_end {s : ByteArray} {done : List ByteArray} {rest : ByteArray} (H : RowI s done rest) (hg : goodRow rest) : piecesP s = done ++ [rest] := by
  apply toLs_injP
  rw [pieces_toLP, H.1, cutA_noP _ _ (fun k hk => by
    obtain ⟨hj, e⟩ := toLP_get_le rest k _ hk
    exact pix_no47 (hg.2.2 k hj) e), List.map_append]
  rfl
theorem slash_step {s : ByteArray} {done : List ByteArray} {rest : ByteArray} {x : Nat} (H : RowI s done rest) (hs : Strange rest x 47) : RowI s (done ++ [rest.extract 0 x]) (rest.extract (x + 1) rest.size) := by
  obtain ⟨_, ⟨hx, _, _, h47⟩, hj⟩ := hs
  refine ⟨?_, by rw [ByteArray.size_extract]; have := H.2; omega⟩
  have hl : toLP rest = (toLP rest).take x ++ 47 :: (toLP rest).drop (x + 1) := by
    have e : (toLP rest).drop x = 47 :: (toLP rest).drop (x + 1) := by
      rw [toL_dropP hx]
      congr 1
      exact UInt8.toNat_inj.1 (h47 rfl)
    rw [← e, List.take_append_drop]
  have hp : ∀ k : Nat, k < ((toLP rest).take x).length → ((toLP rest).take x)[k]? ≠ some (47 : UInt8) := fun k hk => by
    rw [List.length_take, toL_lenP] at hk
    rw [List.getElem?_take_of_lt (by omega), toLP_get rest k (by omega)]
    exact fun e => pix_no47 (hj k (by omega) (by omega)) (Option.some.inj e)
  rw [H.1, List.map_append, List.map_cons, ext_toLP, ext_toLP, List.drop_zero]
  conv => lhs; rw [hl, cutA_hitP _ _ _ hp]
  rw [List.take_of_length_le (l := toLP rest) (i := rest.size) (by rw [toL_lenP]; exact Nat.le_refl _)]
  simp
end Go.Proofs.YtmbkmkpclfgppaaDoor
