/- Contracts of single functions, and plain lemmas, on which the exact laws of this seat rest; each holds under the conditions that it states. -/
import Derived.Test.YtiamjdbfoibnnaaDoorDa
import Derived.Lib.ParseIntBCases
import Derived.Lib.ParseIntBTie
namespace Go.Proofs.YtiamjdbfoibnnaaDoor
set_option linter.unusedVariables false
set_option linter.unusedSimpArgs false
open Go.RowKit

/-! ### decimals read -/
/-- the number that digits spell; other bytes are passed over -/
def valD (n : Nat) : List UInt8 → Nat
  | [] => n
  | c :: r => valD (if 48 ≤ c.toNat ∧ c.toNat ≤ 57 then 10 * n + (c.toNat - 48) else n) r
theorem valD_append (l r : List UInt8) : ∀ n, valD n (l ++ r) = valD (valD n l) r := by
  induction l with
  | nil => intro n; rfl
  | cons c l ih => intro n; exact ih _
theorem digit_nat (d : Nat) (h : d < 10) : (UInt8.ofNat (48 + d)).toNat = 48 + d := UInt8.toNat_ofNat_of_lt' (by show _ < 256; omega)
theorem valD_dec (u : Nat) : valD 0 (Lib.decDigits u) = u := by
  induction u using Nat.strongRecOn with
  | _ u ih =>
    rw [Lib.decDigits]
    split
    · rename_i h
      show (if _ then _ else _) = _
      rw [digit_nat u h, if_pos (by omega)]; omega
    · rename_i h
      rw [valD_append, ih (u / 10) (by omega)]
      show (if _ then _ else _) = _
      rw [digit_nat (u % 10) (Nat.mod_lt _ (by omega)), if_pos (by have := Nat.mod_lt u (show 0 < 10 by omega); omega)]
      omega
theorem dec_head (u : Nat) : ∃ c r, Lib.decDigits u = c :: r ∧ 48 ≤ c.toNat ∧ c.toNat ≤ 57 := by
  induction u using Nat.strongRecOn with
  | _ u ih =>
    rw [Lib.decDigits]
    split
    · rename_i h
      exact ⟨_, _, rfl, by rw [digit_nat u h]; omega, by rw [digit_nat u h]; omega⟩
    · rename_i h
      obtain ⟨c, r, e, h1, h2⟩ := ih (u / 10) (by omega)
      exact ⟨c, r ++ _, by rw [e]; rfl, h1, h2⟩
/-- the number that a text spells -/
def valS (l : List UInt8) : Int := if l.head? = some 45 then -((valD 0 l : Nat) : Int) else ((valD 0 l : Nat) : Int)
theorem valS_itoa (n : Int) : valS (Lib.itoa n) = n := by
  unfold Lib.itoa
  split
  · unfold valS
    rw [List.head?_cons, if_pos rfl]
    show -((valD (if _ then _ else _) (Lib.decDigits n.natAbs) : Nat) : Int) = n
    rw [if_neg (by decide), valD_dec]; omega
  · obtain ⟨c, r, e, h1, h2⟩ := dec_head n.toNat
    unfold valS
    have hc : ¬ (Lib.decDigits n.toNat).head? = some 45 := by
      rw [e, List.head?_cons]
      intro h
      have := Option.some.inj h
      rw [this] at h1
      exact absurd h1 (by decide)
    rw [if_neg hc, valD_dec]; omega
theorem dec_len (k : Nat) : ∀ u, u < 10 ^ (k + 1) → (Lib.decDigits u).length ≤ k + 1 := by
  induction k with
  | zero => intro u h; rw [Lib.decDigits_one (by omega)]; simp
  | succ k ih =>
    intro u h
    rw [Lib.decDigits]
    split
    · simp
    · have := ih (u / 10) (by rw [Nat.pow_succ] at h; omega)
      simp; omega
theorem dec_pos (u : Nat) : 1 ≤ (Lib.decDigits u).length := by
  obtain ⟨c, r, e, _⟩ := dec_head u
  rw [e]; simp
/-- a value's text has 1 to 11 bytes -/
theorem itoa_len {n : Int} (h1 : -1000000000 ≤ n) (h2 : n ≤ 1000000000) : 1 ≤ (Lib.itoa n).length ∧ (Lib.itoa n).length ≤ 11 := by
  have hd : ∀ u : Nat, u ≤ 1000000000 → (Lib.decDigits u).length ≤ 10 := fun u hu => dec_len 9 u (by have : (10 : Nat) ^ (9 + 1) = 10000000000 := by decide
                                                                                                     omega)
  unfold Lib.itoa
  split
  · have := hd n.natAbs (by omega); have := dec_pos n.natAbs; simp; omega
  · have := hd n.toNat (by omega); have := dec_pos n.toNat; omega

theorem parse_digits (u M : Nat) (hM : u ≤ M) (hu : u ≤ 1000000000) : ∀ acc k r, Lib.decDigits u = k ++ r → valD 0 k = acc → Lib.parseUintM M acc r = .ok u := by
  intro acc k r
  induction r generalizing acc k with
  | nil =>
    intro h h2
    rw [List.append_nil] at h
    have := valD_dec u
    rw [h, h2] at this
    rw [this]; rfl
  | cons c r ih =>
    intro h h2
    have hdig : 48 ≤ c.toNat ∧ c.toNat ≤ 57 := by
      have hall : ∀ u : Nat, ∀ c ∈ Lib.decDigits u, 48 ≤ c.toNat ∧ c.toNat ≤ 57 := by
        intro u
        induction u using Nat.strongRecOn with
        | _ u ih2 =>
          rw [Lib.decDigits]
          split
          · rename_i hlt
            intro c hc
            rw [List.mem_singleton] at hc
            subst hc
            rw [digit_nat u hlt]; omega
          · rename_i hlt
            intro c hc
            rw [List.mem_append, List.mem_singleton] at hc
            rcases hc with hc | hc
            · exact ih2 (u / 10) (by omega) c hc
            · subst hc
              have := Nat.mod_lt u (show 0 < 10 by omega)
              rw [digit_nat _ this]; omega
      exact hall u c (by rw [h]; simp)
    have hv : valD 0 (k ++ [c]) = 10 * acc + (c.toNat - 48) := by
      rw [valD_append, h2]
      show (if _ then _ else _) = _
      rw [if_pos hdig]
    have hle : 10 * acc + (c.toNat - 48) ≤ u := by
      have h3 : valD (10 * acc + (c.toNat - 48)) r = u := by
        rw [← hv, ← valD_append, List.append_assoc]
        show valD 0 (k ++ (c :: r)) = u
        rw [← h, valD_dec]
      have mono : ∀ (l : List UInt8) (n : Nat), n ≤ valD n l := by
        intro l
        induction l with
        | nil => intro n; exact Nat.le_refl _
        | cons d l ih3 =>
          intro n
          refine Nat.le_trans ?_ (ih3 _)
          split <;> omega
      have := mono r (10 * acc + (c.toNat - 48))
      omega
    unfold Lib.parseUintM
    rw [if_pos hdig, if_neg (by omega), if_neg (by omega)]
    rw [show acc * 10 + (c.toNat - 48) = 10 * acc + (c.toNat - 48) from by omega]
    exact ih (10 * acc + (c.toNat - 48)) (k ++ [c]) (by rw [h]; simp) hv
/-- a value's text is parsed to it -/
theorem parse_itoa {n : Int} (h1 : -1000000000 ≤ n) (h2 : n ≤ 1000000000) : Lib.parseIntB 64 (Lib.itoa n) = .ok n := by
  have hp : ∀ u : Nat, u ≤ 1000000000 → Lib.parseUintB 64 (Lib.decDigits u) = .ok u := fun u hu => by
    unfold Lib.parseUintB
    obtain ⟨c, r, e, _⟩ := dec_head u
    rw [if_neg (by rw [e]; simp)]
    exact parse_digits u _ (Nat.le_trans hu (by decide)) hu 0 [] _ rfl rfl
  have hb : (1000000000 : Nat) < 2 ^ (64 - 1) := by decide
  unfold Lib.itoa
  split
  · rw [Lib.parseIntB_minus, hp n.natAbs (by omega)]
    show (if _ then _ else _) = _
    rw [if_neg (by omega)]
    congr 1; omega
  · obtain ⟨c, r, e, g1, g2⟩ := dec_head n.toNat
    have := hp n.toNat (by omega)
    rw [e] at this ⊢
    rw [Lib.parseIntB_plain 64 c r (by omega) (by omega), this]
    show (if _ then _ else _) = _
    rw [if_neg (by omega)]
    congr 1; omega

/-- what ReadDecimal says -/
def ReadS (l : List UInt8) (n : Int) (ok : Bool) : Prop :=
  (ok = true ∧ -1000000000 ≤ n ∧ n ≤ 1000000000 ∧ Lib.itoa n = l) ∨ (ok = false ∧ n = 0 ∧ ∀ m : Int, -1000000000 ≤ m → m ≤ 1000000000 → Lib.itoa m ≠ l)
theorem ReadS.unique {l : List UInt8} {n m : Int} {a b : Bool} (H : ReadS l n a) (H' : ReadS l m b) : n = m ∧ a = b := by
  rcases H with ⟨rfl, h1, h2, h3⟩ | ⟨rfl, rfl, h4⟩
  · rcases H' with ⟨rfl, g1, g2, g3⟩ | ⟨rfl, rfl, g4⟩
    · refine ⟨?_, rfl⟩
      rw [← valS_itoa n, ← valS_itoa m, h3, g3]
    · exact absurd h3 (g4 n h1 h2)
  · rcases H' with ⟨rfl, g1, g2, g3⟩ | ⟨rfl, rfl, g4⟩
    · exact absurd g3 (h4 m g1 g2)
    · exact ⟨rfl, rfl⟩
def SaysRead (l : List UInt8) (w : World) (e : Ending) (w' : World) : Prop := ∃ (n : Int) (ok : Bool), e = .returned (.tuple #[.int .i64 n, .bool ok]) ∧ ReadS l n ok ∧ Below w.heap.size w w'
end Go.Proofs.YtiamjdbfoibnnaaDoor
