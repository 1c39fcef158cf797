/- Contracts of single functions, and plain lemmas, on which the exact laws of this seat rest; each holds under the conditions that it states. -/
import Derived.Test.YtnmnlbgialolhaaDoorIs
import Derived.Laws.BitsAllLaws
import Derived.RegionTactic
import Derived.Deep.WholeRow
namespace Go.Proofs.YtnmnlbgialolhaaDoor
set_option linter.unusedVariables false
open Go.RowKit

/-! ### words: bit x is set where f x holds -/
def wordF (f : Nat → Bool) : Nat → Nat
  | 0 => 0
  | k + 1 => wordF f k + if f k then 2 ^ k else 0
theorem wordF_lt (f : Nat → Bool) (k : Nat) : wordF f k < 2 ^ k := by
  induction k with
  | zero => simp [wordF]
  | succ k ih => simp only [wordF, Nat.pow_succ]; split <;> omega
theorem wordF_or (f : Nat → Bool) (k : Nat) (h : f k = true) : wordF f k ||| 2 ^ k = wordF f (k + 1) := by
  have := nat_join k (2 ^ k) (wordF f k) (by simp) (wordF_lt f k)
  rw [Nat.or_comm, this]
  simp [wordF, h]; omega
theorem wordF_bit (f : Nat → Bool) (k i : Nat) : (wordF f k).testBit i = (decide (i < k) && f i) := by
  induction k with
  | zero => simp [wordF]
  | succ k ih =>
    by_cases h : f k = true
    · rw [← wordF_or f k h, Nat.testBit_or, ih, Nat.testBit_two_pow]
      by_cases e : k = i
      · subst e; simp [h]
      · simp [e]
        by_cases h1 : i < k
        · simp [h1, show i < k + 1 from by omega]
        · simp [h1, show ¬ i < k + 1 from by omega]
    · have hf : f k = false := by simpa using h
      simp only [wordF, hf]
      rw [show (if false = true then 2 ^ k else 0) = 0 from rfl, Nat.add_zero, ih]
      by_cases e : i = k
      · subst e; simp [hf]
      · by_cases h1 : i < k
        · simp [h1, show i < k + 1 from by omega]
        · simp [h1, show ¬ i < k + 1 from by omega]

/-- is the byte x of a row black -/
def blackAt (s : ByteArray) (x : Nat) : Bool := s.data.toList.getD x 0 == 35
theorem blackAt_eq (s : ByteArray) (x : Nat) (h : x < s.size) : blackAt s x = (s[x]'h == 35) := by
  unfold blackAt
  have : x < s.data.toList.length := by simpa using h
  rw [List.getD_eq_getElem?_getD, List.getElem?_eq_getElem this]
  rfl
def rowWord (s : ByteArray) : Nat := wordF (blackAt s) s.size

def goodRow (s : ByteArray) : Prop := 1 ≤ s.size ∧ s.size ≤ 16 ∧ ∀ (j : Nat) (hj : j < s.size), pixB (s[j]'hj) = true

theorem b35 {c : UInt8} (h : c.toNat = 35) : c = 35 := UInt8.toNat_inj.1 h
theorem b46 {c : UInt8} (h : c.toNat = 46) : c = 46 := UInt8.toNat_inj.1 h
theorem pix_cases {c : UInt8} (h : pixB c = true) : (c.toNat = 35 ∧ (c == 35) = true) ∨ (c.toNat = 46 ∧ (c == 35) = false) := by
  unfold pixB at h
  rcases Bool.or_eq_true_iff.1 h with h | h
  · exact Or.inl ⟨by rw [beq_iff_eq.1 h]; rfl, h⟩
  · exact Or.inr ⟨by rw [beq_iff_eq.1 h]; rfl, by rw [beq_iff_eq.1 h]; rfl⟩
theorem pix_not {c : UInt8} (h : pixB c = false) : c.toNat ≠ 35 ∧ c.toNat ≠ 46 := by
  constructor
  · intro e; rw [b35 e] at h; exact absurd h (by decide)
  · intro e; rw [b46 e] at h; exact absurd h (by decide)

theorem notEmpty {s : ByteArray} (h1 : 1 ≤ s.size) : s.toList.isEmpty = false := by
  rw [ByteArray.toList_eq]
  have hl : s.data.toList.length = s.size := by simp
  cases h : s.data.toList with
  | nil => rw [h, List.length_nil] at hl; omega
  | cons a l => rfl

theorem iter_below (w : World) (s : ByteArray) (pos : Nat) : Below w.heap.size w (w.iter s pos) := (Below.refl _ _).alloc (Nat.le_refl _) _

theorem orBit (W k : Nat) (hW : W < 2 ^ k) (hk : k ≤ 20) : bits .or .u32 (W : Int) ((2 : Int) ^ k % 4294967296) = ((W ||| 2 ^ k : Nat) : Int) := by
  have h2 : 2 ^ k ≤ 2 ^ 20 := Nat.pow_le_pow_right (by omega) hk
  have e : (2 : Int) ^ k % 4294967296 = ((2 ^ k : Nat) : Int) := by
    have : ((2 ^ k : Nat) : Int) = (2 : Int) ^ k := by simp
    rw [← this]; omega
  rw [e, u32_or_nat W (2 ^ k) (by omega) (by omega)]

set_option maxHeartbeats 1000000 in
set_option maxRecDepth 100000 in
theorem wordOfRow_yes (s : ByteArray) (w : World) (h : goodRow s) :
    Calls Tryd.prog 113 #[.string s] w fun e w' => e = .returned (.tuple #[.int .u32 (rowWord s), .nilIface]) ∧ Below w.heap.size w w' := by
  obtain ⟨h1, h16, hpx⟩ := h
  have HP := Lib.hid hpx
  clear hpx
  go_enter Tryd.func113, Tryd.ntmps113
  go_wp2
  go_loopw [4, 5, 6] (fun wv xv rv wr => ∃ k : Nat, k ≤ s.size ∧ wr = w.iter s k ∧ wv = .int .u32 (wordF (blackAt s) k)) (fun _ _ _ wr => s.size - wr.iterPos w.heap.size)
  case atStart => exact ⟨0, Nat.zero_le _, rfl, rfl⟩
  case round =>
    obtain ⟨k, hk, rfl, rfl⟩ := hrel
    by_cases hlt : k < s.size
    · have hnx : ∀ ty, (Instr.next (.pointer (some ⟨w.heap.size, 0, none⟩)) true ty).run Tryd.prog (w.iter s k) = _ := fun ty => run_next_any w s k ty hlt
      have hb := blackAt_eq s k hlt
      have hor := fun hh => (orBit _ k (wordF_lt (blackAt s) k) (by omega)).trans (congrArg (fun n : Nat => (n : Int)) (wordF_or (blackAt s) k hh))
      have hno : blackAt s k = false → wordF (blackAt s) (k + 1) = wordF (blackAt s) k := fun hh => by simp [wordF, hh]
      obtain ⟨W, hW⟩ : ∃ W, wordF (blackAt s) k = W := ⟨_, rfl⟩
      rw [hW] at hor hno ⊢
      have k16 : ¬ (k = 16) := by omega
      have k0 : (0 : Int) ≤ (k : Int) := by omega
      have k1 : (k : Int) < 16 := by omega
      have HOr := Lib.hid hor
      have HNo := Lib.hid hno
      have HW := Lib.hid hW
      have HB := Lib.hid hb
      clear hor hno hW hb
      rcases pix_cases (HP.out k hlt) with ⟨hc, hq⟩ | ⟨hc, hq⟩
      · rw [decode_ascii s k hlt (by omega), hc] at hnx
        have HQ := Lib.hid hq
        clear hc hq
        go_wp2
        go_roundw
        case rel => exact ⟨k + 1, by omega, rfl, congrArg (Value.int .u32) (HOr.out (by rw [HB.out]; exact HQ.out))⟩
        case measure => simp; omega
      · rw [decode_ascii s k hlt (by omega), hc] at hnx
        have HQ := Lib.hid hq
        clear hc hq
        go_wp2
        go_roundw
        case rel => exact ⟨k + 1, by omega, rfl, by rw [HNo.out (by rw [HB.out]; exact HQ.out)]⟩
        case measure => simp; omega
    · have hnx : ∀ ty, (Instr.next (.pointer (some ⟨w.heap.size, 0, none⟩)) true ty).run Tryd.prog (w.iter s k) = _ := fun ty => run_next_end w s k ty hlt
      have hks : k = s.size := by omega
      have hne : s.toList.isEmpty = false := by
        exact notEmpty h1
      have hW : wordF (blackAt s) k = rowWord s := by rw [hks]; rfl
      rw [hW]
      clear hW hks
      go_wp2
      go_ret2
      exact ⟨rfl, iter_below _ _ _⟩

def BadRow (w : World) (e : Ending) (w' : World) : Prop := ∃ T x, e = .returned (.tuple #[.int .u32 0, .iface T x]) ∧ Below w.heap.size w w'
/-- the error of a row's length lies there -/
def ErrLen (w : World) : Prop := ∃ T x, w.cell? ⟨4, 0, none⟩ = some (.iface T x)
theorem ErrLen.below {w w' : World} (h : ErrLen w) (hb : Below w.heap.size w w') : ErrLen w' := by
  obtain ⟨T, x, h⟩ := h
  exact ⟨T, x, cell_kept hb h⟩

theorem ErrLen.below2 {B : Nat} {w w' : World} (h : ErrLen w) (hb : Below B w w') (hB : w.heap.size ≤ B := by exact Nat.le_refl _) : ErrLen w' := h.below (hb.mono hB)

set_option maxHeartbeats 2000000 in
set_option maxRecDepth 100000 in
theorem wordOfRow_no (s : ByteArray) (w : World) (h : ¬ goodRow s) (he : ErrLen w) :
    Calls Tryd.prog 113 #[.string s] w (BadRow w) := by
  obtain ⟨T, x, hg⟩ := he
  have HG := Lib.hid h
  clear h
  go_enter Tryd.func113, Tryd.ntmps113
  go_wp2
  go_loopw [4, 5, 6] (fun wv xv rv wr => ∃ (k : Nat) (q : Int), k ≤ s.size ∧ k ≤ 16 ∧ wr = w.iter s k ∧ wv = .int .u32 q ∧ Hid (∀ (j : Nat) (hj : j < s.size), j < k → pixB (s[j]'hj) = true)) (fun _ _ _ wr => s.size - wr.iterPos w.heap.size)
  case atStart => exact ⟨0, 0, Nat.zero_le _, Nat.zero_le _, rfl, rfl, fun j _ h => by omega⟩
  case round =>
    obtain ⟨k, q, hk, hk16, rfl, rfl, H⟩ := hrel
    have hgk := cell_kept (iter_below w s k) hg
    by_cases hlt : k < s.size
    · have hnx : ∀ ty, (Instr.next (.pointer (some ⟨w.heap.size, 0, none⟩)) true ty).run Tryd.prog (w.iter s k) = _ := fun ty => run_next_any w s k ty hlt
      by_cases hpx : pixB (s[k]'hlt) = true
      · have H' : Hid (∀ (j : Nat) (hj : j < s.size), j < k + 1 → pixB (s[j]'hj) = true) := fun j hj hjk => by
          by_cases e : j = k
          · subst e; exact hpx
          · exact H.out j hj (by omega)
        have hgk' := cell_kept (iter_below w s (k + 1)) hg
        by_cases k16 : k = 16
        · subst k16
          rcases pix_cases hpx with ⟨hc, hq⟩ | ⟨hc, hq⟩
          all_goals
            rw [decode_ascii s 16 hlt (by omega), hc] at hnx
            clear hc hq hpx
            go_wp2
            go_quiet (fail)
            go_wp2
            go_ret2
            exact ⟨_, _, rfl, (iter_below _ _ _).trans (Joins.below_draws _ _ _)⟩
        · have k0 : (0 : Int) ≤ (k : Int) := by omega
          have k1 : (k : Int) < 16 := by omega
          rcases pix_cases hpx with ⟨hc, hq⟩ | ⟨hc, hq⟩
          all_goals
            rw [decode_ascii s k hlt (by omega), hc] at hnx
            clear hc hq hpx
            go_wp2
            go_roundw
            case rel => exact ⟨k + 1, _, by omega, by omega, rfl, rfl, H'⟩
            case measure => simp; omega
      · have hpf : pixB (s[k]'hlt) = false := by simpa using hpx
        obtain ⟨n35, n46⟩ := pix_not hpf
        obtain ⟨r, d, hd, hr35, hr46⟩ : ∃ (r d : Nat), Utf8.decode s k = (r, d) ∧ r ≠ 35 ∧ r ≠ 46 := by
          by_cases ha : (s[k]'hlt).toNat < 128
          · exact ⟨_, _, decode_ascii s k hlt ha, n35, n46⟩
          · have := (decode_high s k hlt (by omega)).1
            exact ⟨(Utf8.decode s k).1, (Utf8.decode s k).2, rfl, by omega, by omega⟩
        rw [hd] at hnx
        have c1 : ((r : Int) != 35) = true := by rw [bne_iff_ne]; omega
        have c2 : ((r : Int) != 46) = true := by rw [bne_iff_ne]; omega
        clear hd hr35 hr46 n35 n46 hpf hpx
        go_wp2
        go_ret2
        exact ⟨_, _, rfl, (iter_below _ _ _).trans (Joins.below_alloc1 _ _ |>.mono (by simp [World.iter]))⟩
    · have hnx : ∀ ty, (Instr.next (.pointer (some ⟨w.heap.size, 0, none⟩)) true ty).run Tryd.prog (w.iter s k) = _ := fun ty => run_next_end w s k ty hlt
      have hz : s.size = 0 := by
        rcases Nat.eq_zero_or_pos s.size with h | h
        · exact h
        · exact absurd ⟨h, by omega, fun j hj => H.out j hj (by omega)⟩ HG.out
      have hs : s = ByteArray.empty := WideShapes.bytes_inj (show s.data.toList = [] from List.length_eq_zero_iff.1 (by simpa using hz))
      subst hs
      obtain rfl : k = 0 := by omega
      go_wp2
      go_quiet (fail)
      go_wp2
      go_ret2
      exact ⟨_, _, rfl, (iter_below _ _ _).trans (Joins.below_draws _ _ _)⟩
end Go.Proofs.YtnmnlbgialolhaaDoor

/- Contracts of single functions, and plain lemmas, on which the exact laws of this seat rest; each holds under the conditions that it states. -/
namespace Go.Proofs.YtnmnlbgialolhaaDoor
set_option linter.unusedVariables false
open Go.RowKit


section
variable {P : Program} {ops : Array Oper} {rest : List Oper} {o : Oper} {a : Act} {Q : Exit → Act → World → Prop}
/-- a whole row is loaded under a guard that says yes -/
theorem wpList_load_row_g {w : World} (hw : Region.wanted o (yielded ops a.tmps) = true) (ty : TypeId) (x : Operand) (ho : o.op = .load ty x)
    (g : Nat) (hx : a.eval x = .pointer (some ⟨g, 0, none⟩)) (t : TypeId) (cs : Array Value) (fr : Nat × Nat) (d : TypeDesc) (hg : w.heap[g]? = some (.cells cs t fr))
    (hu : P.underlying ty = some d) (hd : (match d with | .struct _ | .array _ _ => true | _ => false) = true) (hi : (P.info? ty).map (·.size) = some cs.size)
    (h : wpList P ops Q rest (a.put o.dst (.agg cs)) w) : wpList P ops Q (o :: rest) a w :=
  wpList_step fun K hK => by
    rw [if_pos hw]
    exact wp_load_row ty x ho g hx t cs fr d hg hu hd hi (hK _ _ h)
/-- a whole row is stored into the block that was made last -/
theorem wpList_store_new (w1 : World) (hgd : o.guard = none) (ty : TypeId) (x y : Operand) (ho : o.op = .store ty x y)
    (cells : Array Value) (hx : a.eval x = .pointer (some ⟨w1.heap.size, 0, none⟩)) (hy : a.eval y = .agg cells)
    (t : TypeId) (old : Array Value) (hi : (P.info? ty).map (·.size) = some cells.size)
    (hold : old.size = cells.size) (h1 : cells.all (·.oneCell') = true)
    (h : wpList P ops Q rest (a.put o.dst undef) (w1.alloc (.cells cells t))) : wpList P ops Q (o :: rest) a (w1.alloc (.cells old t)) :=
  wpList_store_row hgd ty x y ho w1.heap.size cells hx hy t old (heap_alloc_last w1 _) hi hold h1 (by rw [World.setRow_alloc_new]; exact h)
end

/-! ### matrices: eighteen cells: the width, the height, sixteen words -/
def mcells (a b : Int) (f : Nat → Int) : Array Value :=
  #[.int .i64 a, .int .i64 b, .int .u32 (f 0), .int .u32 (f 1), .int .u32 (f 2), .int .u32 (f 3), .int .u32 (f 4), .int .u32 (f 5), .int .u32 (f 6), .int .u32 (f 7),
    .int .u32 (f 8), .int .u32 (f 9), .int .u32 (f 10), .int .u32 (f 11), .int .u32 (f 12), .int .u32 (f 13), .int .u32 (f 14), .int .u32 (f 15)]
theorem mcells_size (a b : Int) (f : Nat → Int) : (mcells a b f).size = 18 := rfl
theorem mcells_one (a b : Int) (f : Nat → Int) : (mcells a b f).all (·.oneCell') = true := by simp [mcells, Value.oneCell']
theorem mcells_word (a b : Int) (f : Nat → Int) (j : Nat) (h : j < 16) : (mcells a b f)[2 + j]? = some (.int .u32 (f j)) := by
  have : j = 0 ∨ j = 1 ∨ j = 2 ∨ j = 3 ∨ j = 4 ∨ j = 5 ∨ j = 6 ∨ j = 7 ∨ j = 8 ∨ j = 9 ∨ j = 10 ∨ j = 11 ∨ j = 12 ∨ j = 13 ∨ j = 14 ∨ j = 15 := by omega
  rcases this with rfl | rfl | rfl | rfl | rfl | rfl | rfl | rfl | rfl | rfl | rfl | rfl | rfl | rfl | rfl | rfl <;> rfl
theorem mcells_set (a b : Int) (f : Nat → Int) (j : Nat) (h : j < 16) (x : Int) : (mcells a b f).setIfInBounds (2 + j) (.int .u32 x) = mcells a b (fun i => if i = j then x else f i) := by
  have : j = 0 ∨ j = 1 ∨ j = 2 ∨ j = 3 ∨ j = 4 ∨ j = 5 ∨ j = 6 ∨ j = 7 ∨ j = 8 ∨ j = 9 ∨ j = 10 ∨ j = 11 ∨ j = 12 ∨ j = 13 ∨ j = 14 ∨ j = 15 := by omega
  rcases this with rfl | rfl | rfl | rfl | rfl | rfl | rfl | rfl | rfl | rfl | rfl | rfl | rfl | rfl | rfl | rfl <;> rfl
theorem mcells_congr (a b : Int) {f g : Nat → Int} (h : ∀ j, j < 16 → f j = g j) : mcells a b f = mcells a b g := by
  unfold mcells
  rw [h 0 (by omega), h 1 (by omega), h 2 (by omega), h 3 (by omega), h 4 (by omega), h 5 (by omega), h 6 (by omega), h 7 (by omega), h 8 (by omega), h 9 (by omega), h 10 (by omega), h 11 (by omega), h 12 (by omega), h 13 (by omega), h 14 (by omega), h 15 (by omega)]
theorem infoM : (Tryd.prog.info? 63).map (·.size) = some 18 := by kernel_rfl

/-- a struct in a variable, and one thing more, handed back -/
theorem results_cell_tmp {P : Program} {fn : Func} {p q : Tmp} {ty : TypeId} (h : fn.results = #[.cell p ty, .tmp q]) (tmps : Array Value) (w : World) (g : Nat) (t : TypeId) (cs : Array Value) (fr : Nat × Nat) (d : TypeDesc)
    (hp : tmps.getD p undef = .pointer (some ⟨g, 0, none⟩)) (hg : w.heap[g]? = some (.cells cs t fr))
    (hu : P.underlying ty = some d) (hd : (match d with | .struct _ | .array _ _ => true | _ => false) = true) (hi : (P.info? ty).map (·.size) = some cs.size) :
    (results fn tmps).run P w = .ok (.tuple #[.agg cs, tmps.getD q undef]) w := by
  have hp' : tmps[p]?.getD undef = .pointer (some ⟨g, 0, none⟩) := by simpa using hp
  simp [results, h, hp', asAddr, run_loadVar_row w g t ty cs fr d hg hu hd hi]

def RetMat (a b : Int) (f : Nat → Int) (ok : Bool) (w : World) (e : Ending) (w' : World) : Prop := e = .returned (.tuple #[.agg (mcells a b f), .bool ok]) ∧ Below w.heap.size w w'

/-- what is known of the eighteen cells -/
structure Mat (C : Array Value) (a b : Int) (f : Nat → Int) : Prop where
  eq : C = mcells a b f
theorem Mat.size {C : Array Value} {a b : Int} {f : Nat → Int} (h : Mat C a b f) : C.size = 18 := by rw [h.eq]; rfl

def hasB (a b x y : Int) : Bool := decide (0 ≤ x) && decide (x < a) && decide (0 ≤ y) && decide (y < b)

set_option maxHeartbeats 400000 in
set_option maxRecDepth 100000 in
theorem has_any (C : Array Value) (a b : Int) (f : Nat → Int) (x y : Int) (w : World) (hC : Mat C a b f) :
    Calls Tryd.prog 115 #[.agg C, .int .i64 x, .int .i64 y] w (SaysB (hasB a b x y) w) := by
  have c0 : (w.alloc (.cells C 63)).cell? ⟨w.heap.size, 0, none⟩ = some (.int .i64 a) := by
    rw [World.cell?_alloc_mark]; rw [hC.eq]; rfl
  have c1 : (w.alloc (.cells C 63)).cell? ⟨w.heap.size, 1, none⟩ = some (.int .i64 b) := by
    rw [World.cell?_alloc_mark]; rw [hC.eq]; rfl
  clear hC
  by_cases h1 : 0 ≤ x
  · by_cases h2 : x < a
    · by_cases h3 : 0 ≤ y
      · have e : Hid (hasB a b x y = decide (y < b)) := by show hasB a b x y = _; simp [hasB, h1, h2, h3]
        go_enter Tryd.func115, Tryd.ntmps115
        go_wp2
        go_ret
        exact ⟨ret_bool e.out.symm, Joins.below_alloc1 _ _⟩
      · have e : Hid (hasB a b x y = false) := by show hasB a b x y = _; simp [hasB, h3]
        go_enter Tryd.func115, Tryd.ntmps115
        go_wp2
        go_ret
        exact ⟨ret_bool (a := false) e.out.symm, Joins.below_alloc1 _ _⟩
    · have e : Hid (hasB a b x y = false) := by show hasB a b x y = _; simp [hasB, h2]
      go_enter Tryd.func115, Tryd.ntmps115
      go_wp2
      go_ret
      exact ⟨ret_bool (a := false) e.out.symm, Joins.below_alloc1 _ _⟩
  · have e : Hid (hasB a b x y = false) := by show hasB a b x y = _; simp [hasB, h1]
    go_enter Tryd.func115, Tryd.ntmps115
    go_wp2
    go_ret
    exact ⟨ret_bool (a := false) e.out.symm, Joins.below_alloc1 _ _⟩
end Go.Proofs.YtnmnlbgialolhaaDoor

/- Contracts of single functions, and plain lemmas, on which the exact laws of this seat rest; each holds under the conditions that it states. -/
namespace Go.Proofs.YtnmnlbgialolhaaDoor
set_option linter.unusedVariables false
open Go.RowKit

/-- a matrix's cells: the words are natural numbers -/
def mat (a b : Nat) (g : Nat → Nat) : Array Value := mcells a b (fun j => (g j : Int))

def blackB (a b : Nat) (g : Nat → Nat) (x y : Int) : Bool := hasB a b x y && (g y.toNat).testBit x.toNat

theorem bit_shift (W x : Nat) (hW : W < 4294967296) : bits .and .u32 ((W : Int) / (2 : Int) ^ x) 1 = if W.testBit x then 1 else 0 := by
  have e : (W : Int) / (2 : Int) ^ x = ((W / 2 ^ x : Nat) : Int) := by simp
  have hlt : W / 2 ^ x < 4294967296 := Nat.lt_of_le_of_lt (Nat.div_le_self _ _) hW
  rw [e, show (1 : Int) = ((1 : Nat) : Int) from rfl, u32_and_nat _ 1 hlt (by omega), nat_mask1, Nat.testBit, Nat.shiftRight_eq_div_pow, ]
  have : 1 &&& W / 2 ^ x = (W / 2 ^ x) % 2 := nat_mask1' _
  rw [this]
  rcases Nat.mod_two_eq_zero_or_one (W / 2 ^ x) with h | h <;> simp [h]

set_option maxHeartbeats 400000 in
set_option maxRecDepth 100000 in
theorem black_any (C : Array Value) (a b : Nat) (g : Nat → Nat) (x y : Int) (w : World) (hC : C = mat a b g) (ha : a ≤ 16) (hb : b ≤ 16) (hg : ∀ j, g j < 4294967296) :
    Calls Tryd.prog 90 #[.agg C, .int .i64 x, .int .i64 y] w (SaysB (blackB a b g x y) w) := by
  have hh := fun W => has_any C a b (fun j => (g j : Int)) x y W ⟨hC⟩
  have HH := Lib.hid hh
  have hsz : C.size = 18 := by rw [hC]; rfl
  have HI : (Tryd.prog.info? 63).map (·.size) = some C.size := by rw [hsz]; exact infoM
  have HI' := Lib.hid HI
  clear hh HI
  by_cases hin : hasB a b x y = true
  · have hin2 := hin
    unfold hasB at hin2
    simp at hin2
    obtain ⟨⟨⟨hx0, hx1⟩, hy0⟩, hy1⟩ := hin2
    obtain ⟨p, rfl⟩ := Int.eq_ofNat_of_zero_le hx0
    obtain ⟨q, rfl⟩ := Int.eq_ofNat_of_zero_le hy0
    have hq : q < 16 := by omega
    have cq : (w.alloc (.cells C 63)).cell? ⟨w.heap.size, 2 + q, none⟩ = some (.int .u32 (g q)) := by
      rw [World.cell?_alloc_mark, hC]; exact mcells_word _ _ _ q hq
    have bs := bit_shift (g q) p (hg q)
    have hval : Hid (blackB a b g p q = (g q).testBit p) := by show blackB a b g p q = _; unfold blackB; rw [hin]; simp
    have HIN := Lib.hid hin
    obtain ⟨W, hW⟩ : ∃ W, g q = W := ⟨_, rfl⟩
    rw [hW] at cq bs hval
    clear hin hC hsz hg hW
    cases hbit : W.testBit p with
    | true =>
      rw [hbit] at bs hval
      have bs' : bits .and .u32 ((W : Int) / (2 : Int) ^ p) 1 = 1 := bs
      clear bs hbit
      go_enter Tryd.func90, Tryd.ntmps90
      go_wp2_with (refine wpList_load_row rfl 63 _ rfl w.heap.size rfl 63 C (0, 0) _ (heap_alloc_last w _) Tryd.underlying63 rfl HI'.out ?_)
      refine (HH.out _).mono ?_
      rintro e w1 ⟨rfl, hb1⟩
      rw [HIN.out]
      have cq1 := (hb1.cell (p := ⟨w.heap.size, 2 + q, none⟩) (by simp)).trans cq
      have HB := Lib.hid hb1
      clear hb1 cq
      go_wp2
      go_ret
      exact ⟨ret_bool (a := true) hval.out.symm, (Joins.below_alloc1 _ _).trans (HB.out.mono (by simp))⟩
    | false =>
      rw [hbit] at bs hval
      have bs' : bits .and .u32 ((W : Int) / (2 : Int) ^ p) 1 = 0 := bs
      clear bs hbit
      go_enter Tryd.func90, Tryd.ntmps90
      go_wp2_with (refine wpList_load_row rfl 63 _ rfl w.heap.size rfl 63 C (0, 0) _ (heap_alloc_last w _) Tryd.underlying63 rfl HI'.out ?_)
      refine (HH.out _).mono ?_
      rintro e w1 ⟨rfl, hb1⟩
      rw [HIN.out]
      have cq1 := (hb1.cell (p := ⟨w.heap.size, 2 + q, none⟩) (by simp)).trans cq
      have HB := Lib.hid hb1
      clear hb1 cq
      go_wp2
      go_ret
      exact ⟨ret_bool (a := false) hval.out.symm, (Joins.below_alloc1 _ _).trans (HB.out.mono (by simp))⟩
  · have hin' : hasB a b x y = false := by simpa using hin
    have hval : Hid (blackB a b g x y = false) := by show blackB a b g x y = _; unfold blackB; rw [hin']; simp
    have HIN := Lib.hid hin'
    clear hin hin' hC hsz
    go_enter Tryd.func90, Tryd.ntmps90
    go_wp2_with (refine wpList_load_row rfl 63 _ rfl w.heap.size rfl 63 C (0, 0) _ (heap_alloc_last w _) Tryd.underlying63 rfl HI'.out ?_)
    refine (HH.out _).mono ?_
    rintro e w1 ⟨rfl, hb1⟩
    rw [HIN.out]
    have HB := Lib.hid hb1
    clear hb1
    go_wp2
    go_ret
    exact ⟨ret_bool (a := false) hval.out.symm, (Joins.below_alloc1 _ _).trans (HB.out.mono (by simp))⟩
end Go.Proofs.YtnmnlbgialolhaaDoor
