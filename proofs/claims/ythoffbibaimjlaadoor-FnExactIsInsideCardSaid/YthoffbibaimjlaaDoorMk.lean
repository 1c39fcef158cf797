/- Contracts of single functions, and plain lemmas, on which the exact laws of this seat rest; each holds under the conditions that it states. -/
import Derived.Test.YthoffbibaimjlaaDoorEq
import Derived.Laws.IdiomStrings
namespace Go.Proofs.YthoffbibaimjlaaDoor
set_option linter.unusedVariables false
open Go.RowKit

theorem digs_step (j : Nat) (h : 0 < j) (l : List UInt8) : digs j ++ l = digs (j / 10) ++ (UInt8.ofNat (48 + j % 10) :: l) := by
  conv => lhs; unfold digs
  rw [dif_neg (by omega)]
  simp

theorem digs_zero : digs 0 = [] := by unfold digs; simp
theorem bpush (c : UInt8) (l : List UInt8) : (⟨#[c]⟩ : ByteArray) ++ ⟨l.toArray⟩ = ⟨(c :: l).toArray⟩ := by
  rw [ByteArray.mk_append_mk]; simp

theorem conv_one (w : World) (j : Nat) : (convert 72 9 (.slice (some ⟨w.heap.size, 0, none⟩) 1 1)).run Tryd.prog (w.alloc (.cells #[.int .u8 (48 + (j : Int) % 10)] 5)) = .ok (.string ⟨[UInt8.ofNat (48 + j % 10)].toArray⟩) (w.alloc (.cells #[.int .u8 (48 + (j : Int) % 10)] 5)) := by
  have e : ((UInt8.ofNat (48 + j % 10)).toNat : Int) = 48 + (j : Int) % 10 := by
    rw [UInt8.toNat_ofNat_of_lt' (by have := Nat.mod_lt j (show 0 < 10 by omega); show _ < 256; omega)]
    omega
  exact run_convert_bytes_back (P := Tryd.prog) (w.alloc (.cells #[.int .u8 (48 + (j : Int) % 10)] 5)) 72 9 5 ⟨w.heap.size, 0, none⟩ 1 [UInt8.ofNat (48 + j % 10)] Tryd.underlying72 Tryd.underlying5 Tryd.underlying9
    (fun i hi => by
      obtain rfl : i = 0 := by simpa using hi
      rw [List.getElem_cons_zero, e]
      simp [Addr.add])

set_option maxHeartbeats 400000 in
set_option maxRecDepth 100000 in
theorem markText_any (k : Nat) (w : World) (h1 : 1 ≤ k) (h2 : k ≤ 9000000) :
    Calls Tryd.prog 36 #[.int .i64 k] w fun e w' => e = .returned (.string (mt k)) ∧ Below w.heap.size w w' := by
  have hmt : mt k = ⟨(109 :: digs k).toArray⟩ := by unfold mt; rw [if_neg (by omega)]
  have HM := Lib.hid hmt
  clear hmt
  go_enter Tryd.func36, Tryd.ntmps36
  go_wp2
  go_loopw [0, 3] (fun kv o wr => ∃ (j : Nat) (l : List UInt8), j ≤ k ∧ kv = .int .i64 j ∧ o = .string ⟨l.toArray⟩ ∧ Hid (digs j ++ l = digs k) ∧ l.length + j ≤ k ∧ Below w.heap.size w wr) (fun kv _ _ => (intOf kv).toNat)
  case atStart => exact ⟨k, [], Nat.le_refl _, rfl, rfl, by show digs k ++ [] = digs k; simp, by simp, Below.refl _ _⟩
  case round =>
    obtain ⟨j, l, hj, rfl, rfl, H, hl, hbel⟩ := hrel
    by_cases hp : 0 < j
    · have hcv := conv_one wr j
      have hs := digs_step j hp l
      have HS := Lib.hid hs
      have HB := Lib.hid hbel
      clear hs hbel
      go_wp2
      go_roundw
      case rel => exact ⟨j / 10, UInt8.ofNat (48 + j % 10) :: l, by omega, by go_num, by rw [UInt8.ofNat_add]; exact congrArg Value.string (bpush _ _), by show _ = _; rw [← HS.out]; exact H.out, by simp; omega, HB.out.alloc HB.out.size _⟩
      case measure => simp [intOf]; omega
    · obtain rfl : j = 0 := by omega
      have hd : l = digs k := by have := H.out; rwa [digs_zero, List.nil_append] at this
      have HB := Lib.hid hbel
      have HD := Lib.hid hd
      clear hbel hd
      go_wp2
      go_ret
      exact ⟨by rw [HM.out, ← HD.out]; exact congrArg (fun x => Ending.returned (Value.string x)) (bpush _ _), HB.out⟩
end Go.Proofs.YthoffbibaimjlaaDoor
