/- Contracts of single functions, and plain lemmas, on which the exact laws of this seat rest; each holds under the conditions that it states. -/
import Derived.Test.YthoffbibaimjlaaDoorSv
namespace Go.Proofs.YthoffbibaimjlaaDoor
set_option linter.unusedVariables false
open Go.RowKit

theorem l01Height_any (pb po : Nat) (ss : List ByteArray) (w : World) (hp : PicAt w pb po ss) :
    Calls Tryd.prog 30 #[.pointer (some ⟨pb, po, none⟩)] w fun e w' => e = .returned (.int .i64 ss.length) ∧ w = w' := by
  obtain ⟨b, off, cap, hc, hst, V⟩ := hp.open'
  have := V.n16
  go_enter Tryd.func30, Tryd.ntmps30
  go_wp2
  go_ret
  exact ⟨rfl, rfl⟩

theorem l01Width_any (pb po : Nat) (ss : List ByteArray) (w : World) (hp : PicAt w pb po ss) :
    Calls Tryd.prog 29 #[.pointer (some ⟨pb, po, none⟩)] w fun e w' => e = .returned (.int .i64 (row0 ss).size) ∧ w = w' := by
  obtain ⟨b, off, cap, hc, hst, V⟩ := hp.open'
  have h1 := V.n1
  have h2 := V.n16
  have h3 := V.w16
  have hc0 := hst.2 0 (by omega)
  rw [Nat.add_zero, show ss.getD 0 ByteArray.empty = row0 ss from rfl] at hc0
  obtain ⟨s0, hs⟩ : ∃ s, row0 ss = s := ⟨_, rfl⟩
  rw [hs] at hc0 h3 ⊢
  have k0 : (0 : Int) < (ss.length : Int) := by omega
  clear hs hst V
  go_enter Tryd.func29, Tryd.ntmps29
  go_wp2
  go_ret
  exact ⟨rfl, rfl⟩

def insB (a b x y : Int) : Bool := inB x 0 (a - 1) && inB y 0 (b - 1)

theorem l01Has_any (pb po : Nat) (ss : List ByteArray) (x y : Int) (w : World) (hp : PicAt w pb po ss) :
    Calls Tryd.prog 38 #[.pointer (some ⟨pb, po, none⟩), .int .i64 x, .int .i64 y] w fun e w' => e = .returned (.bool (insB (row0 ss).size ss.length x y)) ∧ w = w' := by
  obtain ⟨b, off, cap, hc, hst, V⟩ := hp.open'
  have h1 := V.n1
  have h2 := V.n16
  have h3 := V.w16
  have h4 := V.w1
  have CW := Lib.hid (l01Width_any pb po ss w hp)
  have CH := Lib.hid (l01Height_any pb po ss w hp)
  obtain ⟨a, ha⟩ : ∃ a, (row0 ss).size = a := ⟨_, rfl⟩
  obtain ⟨n, hn⟩ : ∃ a, ss.length = a := ⟨_, rfl⟩
  rw [ha] at CW h3 h4 ⊢
  rw [hn] at CH h1 h2 ⊢
  clear ha hn hp hc hst V
  cases hx : inB x 0 ((a : Int) - 1) with
  | false =>
    have HX := Lib.hid hx
    have e2 : Hid (insB a n x y = false) := by show insB a n x y = _; simp [insB, hx]
    clear hx
    go_enter Tryd.func38, Tryd.ntmps38
    go_wp2_with fail
    refine CW.out.mono ?_
    rintro e w' ⟨rfl, rfl⟩
    go_wp2_with fail
    refine (l00In_any _ _ _ _).mono ?_
    rintro e w' ⟨rfl, rfl⟩
    rw [HX.out]
    go_wp2_with fail
    go_ret
    exact ⟨ret_bool (a := false) e2.out.symm, rfl⟩
  | true =>
    have HX := Lib.hid hx
    have e2 : Hid (insB a n x y = inB y 0 ((n : Int) - 1)) := by show insB a n x y = _; simp [insB, hx]
    clear hx
    go_enter Tryd.func38, Tryd.ntmps38
    go_wp2_with fail
    refine CW.out.mono ?_
    rintro e w' ⟨rfl, rfl⟩
    go_wp2_with fail
    refine (l00In_any _ _ _ _).mono ?_
    rintro e w' ⟨rfl, rfl⟩
    rw [HX.out]
    go_wp2_with fail
    refine CH.out.mono ?_
    rintro e w' ⟨rfl, rfl⟩
    go_wp2_with fail
    refine (l00In_any _ _ _ _).mono ?_
    rintro e w' ⟨rfl, rfl⟩
    go_wp2_with fail
    go_ret
    exact ⟨ret_bool e2.out.symm, rfl⟩

/-- is the pixel x, y black; outside all are white -/
def pixI (ss : List ByteArray) (x y : Int) : Bool := insB (row0 ss).size ss.length x y && blackAt (ss.getD y.toNat ByteArray.empty) x.toNat

theorem l01Black_any (pb po : Nat) (ss : List ByteArray) (x y : Int) (w : World) (hp : PicAt w pb po ss) :
    Calls Tryd.prog 33 #[.pointer (some ⟨pb, po, none⟩), .int .i64 x, .int .i64 y] w fun e w' => e = .returned (.bool (pixI ss x y)) ∧ w = w' := by
  have CH := Lib.hid (l01Has_any pb po ss x y w hp)
  obtain ⟨b, off, cap, hc, hst, V⟩ := hp.open'
  by_cases hin : insB (row0 ss).size ss.length x y = true
  · have h1 := V.n1
    have h2 := V.n16
    have h3 := V.w16
    have hin2 := hin
    unfold insB inB at hin2
    simp at hin2
    obtain ⟨⟨hx0, hx1⟩, hy0, hy1⟩ := hin2
    obtain ⟨p, rfl⟩ := Int.eq_ofNat_of_zero_le hx0
    obtain ⟨q, rfl⟩ := Int.eq_ofNat_of_zero_le hy0
    have hq : q < ss.length := by omega
    have hcq := hst.2 q hq
    have hrow := (V.rows q hq).1
    have hval : Hid (pixI ss p q = blackAt (ss.getD q ByteArray.empty) p) := by show pixI ss p q = _; unfold pixI; rw [hin]; simp
    obtain ⟨s, hs⟩ : ∃ s, ss.getD q ByteArray.empty = s := ⟨_, rfl⟩
    rw [hs] at hcq hrow hval
    have hps : p < s.size := by omega
    have hb := blackAt_eq s p hps
    have ks : (s.size : Int) ≤ 16 := by omega
    have kq : (q : Int) < (ss.length : Int) := by omega
    have HIN := Lib.hid hin
    cases hbit : blackAt s p with
    | true =>
      rw [hbit] at hb hval
      have hb2 : (((s[p]'hps).toNat : Int) == 35) = true := by
        have := beq_iff_eq.1 hb.symm
        rw [this]; rfl
      clear hin hb hbit hs hst V hrow
      go_enter Tryd.func33, Tryd.ntmps33
      go_wp2_with fail
      refine CH.out.mono ?_
      rintro e w' ⟨rfl, rfl⟩
      rw [HIN.out]
      go_wp2
      go_ret
      exact ⟨ret_bool (a := true) hval.out.symm, rfl⟩
    | false =>
      rw [hbit] at hb hval
      have hb2 : (((s[p]'hps).toNat : Int) == 35) = false := by
        rw [beq_eq_false_iff_ne]
        intro e
        have := b35 (c := s[p]) (Int.ofNat_inj.1 e)
        rw [this] at hb
        exact absurd hb (by decide)
      clear hin hb hbit hs hst V hrow
      go_enter Tryd.func33, Tryd.ntmps33
      go_wp2_with fail
      refine CH.out.mono ?_
      rintro e w' ⟨rfl, rfl⟩
      rw [HIN.out]
      go_wp2
      go_ret
      exact ⟨ret_bool (a := false) hval.out.symm, rfl⟩
  · have hin' : insB (row0 ss).size ss.length x y = false := by simpa using hin
    have hval : Hid (pixI ss x y = false) := by show pixI ss x y = _; unfold pixI; rw [hin']; simp
    have HIN := Lib.hid hin'
    clear hin hin' hst V hp
    go_enter Tryd.func33, Tryd.ntmps33
    go_wp2_with fail
    refine CH.out.mono ?_
    rintro e w' ⟨rfl, rfl⟩
    rw [HIN.out]
    go_wp2
    go_ret
    exact ⟨ret_bool (a := false) hval.out.symm, rfl⟩
end Go.Proofs.YthoffbibaimjlaaDoor
