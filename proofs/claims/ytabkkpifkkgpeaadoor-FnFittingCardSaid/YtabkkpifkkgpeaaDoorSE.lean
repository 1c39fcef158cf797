/- Contracts of single functions, and plain lemmas, on which the exact laws of this seat rest; each holds under the conditions that it states. -/
import Derived.Test.YtabkkpifkkgpeaaDoorSR
import Derived.Test.YtabkkpifkkgpeaaDoorLf
import Derived.Test.YtabkkpifkkgpeaaDoorMp
import Derived.Test.YtabkkpifkkgpeaaDoorIs
import Derived.Test.YtabkkpifkkgpeaaDoorPb
import Derived.Test.YtabkkpifkkgpeaaDoorSp
namespace Go.Proofs.YtabkkpifkkgpeaaDoor
set_option linter.unusedVariables false
set_option linter.unusedSimpArgs false
open Go.RowKit
attribute [local go_sem] Oper.semAt_some

theorem own_farr {W W' : World} {base n s l r : Nat} {e : TypeId} {v : Value} {xs : List Value} (h : W.ownsRow base e s v n xs) (hf : Far l r W W') (hr : r ≤ base) : W'.ownsRow base e s v n xs := by
  refine ⟨h.1, ?_⟩
  rcases h.2 with h2 | ⟨g, cap, cur, hv, hb, hg, rest⟩
  · exact Or.inl h2
  · subst hv
    have h1 := (h.lt g rfl).1
    exact Or.inr ⟨g, cap, cur, rfl, hb, hf.cells hg (by omega), rest⟩
theorem Far.setCell {l r : Nat} {W W' : World} (h : Far l r W W') (b o : Nat) (x : Value) (hb : W.heap.size ≤ b) : Far l r W (W'.setCell ⟨b, o, none⟩ x) :=
  ⟨h.os, h.tape, h.output, Nat.le_trans h.size (by simp [World.setCell]), fun k hk hd => (Below.heap_setCell W' ⟨b, o, none⟩ x k (by show k ≠ b; omega)).trans (h.block k hk hd)⟩
/-- the state of a drawing: a row of bools of its own, its source, the result's variable -/
structure DrSt (w wr : World) (p : Nat) (v : Value) (ns : List Nat) (N m : Nat) (bs : List Bool) : Prop where
  own : wr.ownsRow w.heap.size 4 1 (.slice (some ⟨w.heap.size + 1, 0, none⟩) N N) N (boolV bs)
  len : bs.length = N
  src : Src wr p v ns m
  far : Far p (p + 1) w wr
  lt : p < w.heap.size
  pic : wr.heap[w.heap.size]? = some (.cells #[.slice none 0 0] 42 (0, 0))
theorem DrSt.draw {w wr w2 : World} {p : Nat} {v : Value} {ns : List Nat} {N m m' : Nat} {bs : List Bool} (h : DrSt w wr p v ns N m bs) (hd : Drew p v ns m' wr w2) : DrSt w w2 p v ns N m' bs := by
  have hl := h.lt
  exact ⟨own_farr h.own hd.2 (by omega), h.len, hd.1, h.far.trans hd.2, h.lt, hd.2.cells h.pic (by omega)⟩
theorem DrSt.set {w wr : World} {p : Nat} {v : Value} {ns : List Nat} {N m : Nat} {bs : List Bool} (h : DrSt w wr p v ns N m bs) (i : Nat) (x : Bool) : DrSt w (wr.setCell ⟨w.heap.size + 1, i, none⟩ (.bool x)) p v ns N m (bs.set i x) := by
  have h1 := (h.own.stored i (.bool x)).1
  have e : (boolV bs).set i (.bool x) = boolV (bs.set i x) := by unfold boolV; rw [List.map_set]
  rw [e] at h1
  have hs : Below (w.heap.size + 1) wr (wr.setCell ⟨w.heap.size + 1, i, none⟩ (.bool x)) := (Below.refl (w.heap.size + 1) wr).setCell (p := ⟨w.heap.size + 1, i, none⟩) (Nat.le_refl _) _
  have hl := h.lt
  exact ⟨h1, by rw [List.length_set]; exact h.len, h.src.bel hs (by omega), h.far.setCell _ _ _ (by omega), h.lt, (hs.block _ (by omega)).trans h.pic⟩
theorem DrSt.cell {w wr : World} {p : Nat} {v : Value} {ns : List Nat} {N m : Nat} {bs : List Bool} (h : DrSt w wr p v ns N m bs) (i : Nat) (hi : i < N) : ∃ u, wr.cell? ⟨w.heap.size + 1, i, none⟩ = some u ∧ wr.frozen? ⟨w.heap.size + 1, i, none⟩ = false := by
  have h1 := h.own.cellAt i (by omega)
  have hl : i < (boolV bs).length := by unfold boolV; rw [List.length_map, h.len]; exact hi
  rw [List.getElem?_eq_getElem hl] at h1
  exact ⟨_, h1, h.own.frozenAt i⟩

/-- a picture that is drawn -/
def DrewPic (w : World) (p : Nat) (v : Value) (ns : List Nat) (m wd h : Nat) (e : Ending) (w' : World) : Prop :=
  ∃ (f : Nat → Nat → Bool) (g cap : Nat), e = .returned (.agg #[.slice (some ⟨g, 0, none⟩) h cap]) ∧ OwnP w' w.heap.size (.slice (some ⟨g, 0, none⟩) h cap) (mkPic wd h f) ∧ Src w' p v ns m ∧ Far p (p + 1) w w'

set_option maxHeartbeats 8000000 in
set_option maxRecDepth 100000 in
theorem l01Draw_any (wd h p : Nat) (v : Value) (ns : List Nat) (m : Nat) (w : World) (hS : Src w p v ns m) (hw : 1 ≤ wd ∧ wd ≤ 16) (hh : 1 ≤ h ∧ h ≤ 16) (hm : m ≤ 1000) :
    Calls Tryd.prog 77 #[.pointer (some ⟨p, 0, none⟩), .int .i64 (wd : Int), .int .i64 (h : Int)] w (DrewPic w p v ns (m + 300) wd h) := by
  obtain ⟨i0, hi, hz0, hz1, hz2⟩ := info_parts Tryd.info4
  have hNle : wd * h ≤ 256 := Nat.mul_le_mul hw.2 hh.2
  have CM : Hid (∀ N (bs : List Bool) W, bs.length = N → Bools W (w.heap.size + 1) 0 bs → N = wd * h → Calls Tryd.prog 110 #[.int .i64 (wd : Int), .slice (some ⟨w.heap.size + 1, 0, none⟩) N N] W (fun e w' => ∃ g cap, e = .returned (.agg #[.slice (some ⟨g, 0, none⟩) h cap]) ∧ OwnP w' W.heap.size (.slice (some ⟨g, 0, none⟩) h cap) (mkPic wd h (fun y x => bs.getD (y * wd + x) false)) ∧ Below W.heap.size W w')) := fun N bs W h1 h2 h3 => by
    subst h3
    have := l01Make_any (w.heap.size + 1) 0 (wd * h) wd h bs W hw hh h1 h2
    unfold TookPic at this
    rw [mkPic_len] at this
    exact this
  have hc : (wd : Int) * (h : Int) = ((wd * h : Nat) : Int) := by push_cast; rfl
  obtain ⟨N, hNN⟩ : ∃ N, wd * h = N := ⟨_, rfl⟩
  rw [hNN] at hNle hc CM
  have hlt := hS.lt
  have HS := Lib.hid hS
  have hP0 : Hid ((w.alloc (.cells #[.slice none 0 0] 42)).heap[w.heap.size]? = some (.cells #[.slice none 0 0] 42 (0, 0))) := heap_alloc_last w _
  obtain ⟨hw1, hw2⟩ := hw
  obtain ⟨hh1, hh2⟩ := hh
  clear hS hNN
  go_enter Tryd.func77, Tryd.ntmps77
  go_wp2_with (at_make; refine wpList_make_full _ rfl _ _ 59 rfl w.heap.size 4 i0 (.bool false) 1 Tryd.underlying59 hi hz0 hz1 _ _ _ _ N rfl rfl rfl rfl ?c1 ?c2 (by simp) ?_)
  case c1 => rw [hz2]; omega
  case c2 => unfold maxLen; omega
  intro w1 hown hgr
  rw [toList_madeCells_one] at hown
  have hbel : Below w.heap.size w w1 := (Joins.below_alloc1 w _).grown hgr (by simp) (fun k h => by cases h)
  have hp1 : w1.heap[w.heap.size]? = some (.cells #[.slice none 0 0] 42 (0, 0)) := (hgr.block _ (by simp) (by simp)).trans hP0.out
  have hrep : boolV (List.replicate N false) = List.replicate N (.bool false) := by unfold boolV; rw [List.map_replicate]
  rw [← hrep] at hown
  have HD0 : Hid (DrSt w w1 p v ns N m (List.replicate N false)) := ⟨hown, List.length_replicate, HS.out.bel hbel hlt, ⟨hbel.os, hbel.tape, hbel.output, hbel.size, fun k hk _ => hbel.block k hk⟩, hlt, hp1⟩
  clear hgr hc hown hbel hp1 HS hP0 hrep
  go_wp2_with fail
  refine (pick_any p v ns m 5 _ HD0.out.src (by omega) (by omega)).mono ?_
  rintro e w2 ⟨⟨r, hr, rfl⟩, hd⟩
  have HD := Lib.hid (HD0.out.draw hd)
  clear hd HD0
  have hr5 : r = 0 ∨ r = 1 ∨ r = 2 ∨ r = 3 ∨ r = 4 := by omega
  clear hr
  rcases hr5 with rfl | rfl | rfl | rfl | rfl
  · go_wp2_with fail
    go_loopw [30] (fun iv wr => ∃ (k m' : Nat) (bs : List Bool), k ≤ N ∧ iv = .int .i64 (k : Int) ∧ m' ≤ m + 1 + k ∧ Hid (DrSt w wr p v ns N m' bs)) (fun iv _ => N - (intOf iv).toNat)
    case atStart => exact ⟨0, _, _, Nat.zero_le _, rfl, by omega, HD⟩
    case round =>
      clear HD
      obtain ⟨k, m', bs, hkN, rfl, hm', HD⟩ := hrel
      by_cases hlt : k < N
      · have kk : (k : Int) < (N : Int) := by omega
        go_wp2_with fail
        refine (one_any p v ns m' 2 _ HD.out.src (by omega) (by omega)).mono ?_
        rintro e w2 ⟨⟨b, rfl⟩, hd⟩
        have HD2 := Lib.hid (HD.out.draw hd)
        clear hd HD
        obtain ⟨u, hu, hf⟩ := HD2.out.cell k hlt
        have HD3 := Lib.hid (HD2.out.set k (b))
        clear HD2
        go_wp2_with fail
        go_roundw
        case rel => exact ⟨k + 1, m' + 1, _, by omega, by go_num, by omega, HD3⟩
        case measure => simp [intOf]; omega
      · obtain rfl : N = k := by omega
        go_wp2_with fail
        refine (pick_any p v ns _ 4 _ HD.out.src (by omega) (by omega)).mono ?_
        rintro e w3 ⟨⟨kc, hkc, rfl⟩, hd⟩
        have HD5 := Lib.hid (HD.out.draw hd)
        have hkc4 : kc ≤ 3 := by omega
        obtain ⟨m5, bs5, hm5, HD5⟩ : ∃ m5 bs5, m5 ≤ m + N + 3 ∧ Hid (DrSt w w3 p v ns N m5 bs5) := ⟨_, _, by omega, HD5⟩
        clear hd HD hkc
        go_wp2_with fail
        go_loopw [13] (fun kv wr => ∃ (k m' : Nat) (bs : List Bool), k ≤ 3 ∧ kv = .int .i64 (k : Int) ∧ m' ≤ m + N + 3 + 5 * (3 - k) ∧ Hid (DrSt w wr p v ns N m' bs)) (fun kv _ => (intOf kv).toNat)
        case atStart => exact ⟨kc, m5, bs5, hkc4, rfl, by omega, HD5⟩
        case round =>
          clear HD5
          obtain ⟨k, m', bs, hk3, rfl, hm', HD⟩ := hrel
          by_cases hk0 : 0 < k
          · go_wp2_with fail
            refine (pick_any p v ns m' (wd : Int) _ HD.out.src (by omega) (by omega)).mono ?_
            rintro e wa ⟨⟨x, hx, rfl⟩, hd⟩
            have HDa := Lib.hid (HD.out.draw hd)
            have hx2 : x < wd := by omega
            clear hd HD hx
            go_wp2_with fail
            refine (pick_any p v ns (m' + 1) (h : Int) _ HDa.out.src (by omega) (by omega)).mono ?_
            rintro e wb ⟨⟨y, hy, rfl⟩, hd⟩
            have HDb := Lib.hid (HDa.out.draw hd)
            have hy2 : y < h := by omega
            clear hd HDa hy
            go_wp2_with fail
            refine (pick_any p v ns (m' + 1 + 1) ((wd : Int) - (x : Int)) _ HDb.out.src (by omega) (by omega)).mono ?_
            rintro e wc ⟨⟨dx, hdx, rfl⟩, hd⟩
            have HDc := Lib.hid (HDb.out.draw hd)
            have hdx2 : dx < wd := by omega
            clear hd HDb hdx
            go_wp2_with fail
            refine (pick_any p v ns (m' + 1 + 1 + 1) ((h : Int) - (y : Int)) _ HDc.out.src (by omega) (by omega)).mono ?_
            rintro e we ⟨⟨dy, hdy, rfl⟩, hd⟩
            have HDe := Lib.hid (HDc.out.draw hd)
            have hdy2 : dy < h := by omega
            clear hd HDc hdy
            go_wp2_with fail
            refine (one_any p v ns (m' + 1 + 1 + 1 + 1) 3 _ HDe.out.src (by omega) (by omega)).mono ?_
            rintro e wf ⟨⟨bk, rfl⟩, hd⟩
            have HDf := Lib.hid (HDe.out.draw hd)
            clear hd HDe
            obtain ⟨m6, hm6, HD6⟩ : ∃ m6, m6 ≤ m + N + 3 + 5 * (3 - (k - 1)) ∧ Hid (DrSt w wf p v ns N m6 bs) := ⟨_, by omega, HDf⟩
            clear HDf
            go_wp2_with fail
            go_loopw [109] (fun iv wr => ∃ (i : Nat) (bs : List Bool), i ≤ N ∧ iv = .int .i64 (i : Int) ∧ Hid (DrSt w wr p v ns N m6 bs)) (fun iv _ => N - (intOf iv).toNat)
            case atStart => exact ⟨0, _, Nat.zero_le _, rfl, HD6⟩
            case round =>
              clear HD6
              obtain ⟨i, bs, hiN, rfl, HD⟩ := hrel
              by_cases hlt : i < N
              · have kk : (i : Int) < (N : Int) := by omega
                have kr : (i : Int).tmod (wd : Int) = ((i % wd : Nat) : Int) := by rw [Int.tmod_eq_emod_of_nonneg (by omega)]; exact (Int.natCast_emod i wd).symm
                have kq : (i : Int).tdiv (wd : Int) = ((i / wd : Nat) : Int) := by rw [Int.tdiv_eq_ediv_of_nonneg (by omega)]; exact (Int.natCast_ediv i wd).symm
                have kn : ¬ (wd : Int) = 0 := by omega
                obtain ⟨a, ha⟩ : ∃ a, i % wd = a := ⟨_, rfl⟩
                obtain ⟨c, hc⟩ : ∃ a, i / wd = a := ⟨_, rfl⟩
                rw [ha] at kr
                rw [hc] at kq
                have ha2 : a < wd := by rw [← ha]; exact Nat.mod_lt _ hw1
                have hc2 : c ≤ i := by rw [← hc]; exact Nat.div_le_self _ _
                have k1 : IntKind.i64.wrap ((c : Nat) : Int) = (c : Int) := IntWalk.i64_in _ (by omega)
                have C1 := Lib.hid (fun W => l00In_any (a : Int) (x : Int) ((x : Int) + (1 + (dx : Int)) - 1) W)
                have C2 := Lib.hid (fun W => l00In_any (c : Int) (y : Int) ((y : Int) + (1 + (dy : Int)) - 1) W)
                obtain ⟨b1, hb1⟩ : ∃ b, inB (a : Int) (x : Int) ((x : Int) + (1 + (dx : Int)) - 1) = b := ⟨_, rfl⟩
                obtain ⟨b2, hb2⟩ : ∃ b, inB (c : Int) (y : Int) ((y : Int) + (1 + (dy : Int)) - 1) = b := ⟨_, rfl⟩
                rw [hb1] at C1
                rw [hb2] at C2
                clear hb1 hb2 ha hc
                obtain ⟨u, hu, hf⟩ := HD.out.cell i hlt
                have HD3 := Lib.hid (HD.out.set i (!bk))
                go_wp2_with fail
                refine (C1.out _).mono ?_
                rintro e w' ⟨rfl, rfl⟩
                cases b1 with
                | false =>
                  go_wp2_with fail
                  go_roundw
                  case rel => exact ⟨i + 1, _, by omega, by go_num, HD⟩
                  case measure => simp [intOf]; omega
                | true =>
                  go_wp2_with fail
                  refine (C2.out _).mono ?_
                  rintro e w' ⟨rfl, rfl⟩
                  cases b2 with
                  | false =>
                    go_wp2_with fail
                    go_roundw
                    case rel => exact ⟨i + 1, _, by omega, by go_num, HD⟩
                    case measure => simp [intOf]; omega
                  | true =>
                    clear HD
                    go_wp2_with fail
                    go_roundw
                    case rel => exact ⟨i + 1, _, by omega, by go_num, HD3⟩
                    case measure => simp [intOf]; omega
              · obtain rfl : N = i := by omega
                go_wp2_with fail
                go_roundw
                case rel => exact ⟨k - 1, m6, _, by omega, by go_num, by omega, HD⟩
                case measure => simp [intOf]; omega
          · obtain rfl : k = 0 := by omega
            have HBo := Lib.hid (own_bools HD.out.own HD.out.len)
            have HLn := Lib.hid HD.out.len
            have C := Lib.hid (CM.out N bs _ HLn.out HBo.out rfl)
            go_wp2_with fail
            refine C.out.mono ?_
            rintro e w4 ⟨g, cap, rfl, hown, hb4⟩
            have hl := HD.out.lt
            have hsz := HD.out.far.size
            have hp4 := (hb4.block _ (Array.getElem?_eq_some_iff.1 HD.out.pic).1).trans HD.out.pic
            have hfr := free_of_one hp4
            have hc4 := cell_of_one hp4
            have HF := Lib.hid ((HD.out.far.trans ⟨hb4.os, hb4.tape, hb4.output, hb4.size, fun k hk _ => hb4.block k hk⟩ : Far p (p + 1) w w4).setCell w.heap.size 0 (.slice (some ⟨g, 0, none⟩) h cap) (Nat.le_refl _))
            have HSs := Lib.hid (((HD.out.src.bel hb4 HD.out.src.lt).bel ((Below.refl w.heap.size w4).setCell (p := ⟨w.heap.size, 0, none⟩) (Nat.le_refl _) (.slice (some ⟨g, 0, none⟩) h cap)) hl).more (show m' ≤ m + 300 by omega))
            have HO := Lib.hid (Joins.ownsRow_le (own_set (u := .slice (some ⟨g, 0, none⟩) h cap) hown hp4 (by decide)) hsz)
            have HPo : Hid ((w4.setCell ⟨w.heap.size, 0, none⟩ (.slice (some ⟨g, 0, none⟩) h cap)).cell? ⟨w.heap.size, 0, none⟩ = some (.slice (some ⟨g, 0, none⟩) h cap)) := cell_of_one (one_setCell hp4)
            obtain ⟨ff, hff⟩ : ∃ ff : Nat → Nat → Bool, (fun y x => bs.getD (y * wd + x) false) = ff := ⟨_, rfl⟩
            rw [hff] at HO
            clear hown hb4 hp4 hff HD hsz HBo HLn CM C
            go_wp2_with fail
            exact bodyPost_ret (v := .agg #[.slice (some ⟨g, 0, none⟩) h cap]) (by simp [results, Tryd.results77, go_sem, HPo.out]) rfl ⟨ff, g, cap, rfl, HO.out, HSs.out, HF.out⟩
  · go_wp2_with fail
    go_loopw [43] (fun iv wr => ∃ (k m' : Nat) (bs : List Bool), k ≤ N ∧ iv = .int .i64 (k : Int) ∧ m' ≤ m + 1 + k ∧ Hid (DrSt w wr p v ns N m' bs)) (fun iv _ => N - (intOf iv).toNat)
    case atStart => exact ⟨0, _, _, Nat.zero_le _, rfl, by omega, HD⟩
    case round =>
      clear HD
      obtain ⟨k, m', bs, hkN, rfl, hm', HD⟩ := hrel
      by_cases hlt : k < N
      · have kk : (k : Int) < (N : Int) := by omega
        go_wp2_with fail
        refine (one_any p v ns m' 4 _ HD.out.src (by omega) (by omega)).mono ?_
        rintro e w2 ⟨⟨b, rfl⟩, hd⟩
        have HD2 := Lib.hid (HD.out.draw hd)
        clear hd HD
        obtain ⟨u, hu, hf⟩ := HD2.out.cell k hlt
        have HD3 := Lib.hid (HD2.out.set k (b))
        clear HD2
        go_wp2_with fail
        go_roundw
        case rel => exact ⟨k + 1, m' + 1, _, by omega, by go_num, by omega, HD3⟩
        case measure => simp [intOf]; omega
      · obtain rfl : N = k := by omega
        go_wp2_with fail
        refine (pick_any p v ns _ 4 _ HD.out.src (by omega) (by omega)).mono ?_
        rintro e w3 ⟨⟨kc, hkc, rfl⟩, hd⟩
        have HD5 := Lib.hid (HD.out.draw hd)
        have hkc4 : kc ≤ 3 := by omega
        obtain ⟨m5, bs5, hm5, HD5⟩ : ∃ m5 bs5, m5 ≤ m + N + 3 ∧ Hid (DrSt w w3 p v ns N m5 bs5) := ⟨_, _, by omega, HD5⟩
        clear hd HD hkc
        go_wp2_with fail
        go_loopw [13] (fun kv wr => ∃ (k m' : Nat) (bs : List Bool), k ≤ 3 ∧ kv = .int .i64 (k : Int) ∧ m' ≤ m + N + 3 + 5 * (3 - k) ∧ Hid (DrSt w wr p v ns N m' bs)) (fun kv _ => (intOf kv).toNat)
        case atStart => exact ⟨kc, m5, bs5, hkc4, rfl, by omega, HD5⟩
        case round =>
          clear HD5
          obtain ⟨k, m', bs, hk3, rfl, hm', HD⟩ := hrel
          by_cases hk0 : 0 < k
          · go_wp2_with fail
            refine (pick_any p v ns m' (wd : Int) _ HD.out.src (by omega) (by omega)).mono ?_
            rintro e wa ⟨⟨x, hx, rfl⟩, hd⟩
            have HDa := Lib.hid (HD.out.draw hd)
            have hx2 : x < wd := by omega
            clear hd HD hx
            go_wp2_with fail
            refine (pick_any p v ns (m' + 1) (h : Int) _ HDa.out.src (by omega) (by omega)).mono ?_
            rintro e wb ⟨⟨y, hy, rfl⟩, hd⟩
            have HDb := Lib.hid (HDa.out.draw hd)
            have hy2 : y < h := by omega
            clear hd HDa hy
            go_wp2_with fail
            refine (pick_any p v ns (m' + 1 + 1) ((wd : Int) - (x : Int)) _ HDb.out.src (by omega) (by omega)).mono ?_
            rintro e wc ⟨⟨dx, hdx, rfl⟩, hd⟩
            have HDc := Lib.hid (HDb.out.draw hd)
            have hdx2 : dx < wd := by omega
            clear hd HDb hdx
            go_wp2_with fail
            refine (pick_any p v ns (m' + 1 + 1 + 1) ((h : Int) - (y : Int)) _ HDc.out.src (by omega) (by omega)).mono ?_
            rintro e we ⟨⟨dy, hdy, rfl⟩, hd⟩
            have HDe := Lib.hid (HDc.out.draw hd)
            have hdy2 : dy < h := by omega
            clear hd HDc hdy
            go_wp2_with fail
            refine (one_any p v ns (m' + 1 + 1 + 1 + 1) 3 _ HDe.out.src (by omega) (by omega)).mono ?_
            rintro e wf ⟨⟨bk, rfl⟩, hd⟩
            have HDf := Lib.hid (HDe.out.draw hd)
            clear hd HDe
            obtain ⟨m6, hm6, HD6⟩ : ∃ m6, m6 ≤ m + N + 3 + 5 * (3 - (k - 1)) ∧ Hid (DrSt w wf p v ns N m6 bs) := ⟨_, by omega, HDf⟩
            clear HDf
            go_wp2_with fail
            go_loopw [109] (fun iv wr => ∃ (i : Nat) (bs : List Bool), i ≤ N ∧ iv = .int .i64 (i : Int) ∧ Hid (DrSt w wr p v ns N m6 bs)) (fun iv _ => N - (intOf iv).toNat)
            case atStart => exact ⟨0, _, Nat.zero_le _, rfl, HD6⟩
            case round =>
              clear HD6
              obtain ⟨i, bs, hiN, rfl, HD⟩ := hrel
              by_cases hlt : i < N
              · have kk : (i : Int) < (N : Int) := by omega
                have kr : (i : Int).tmod (wd : Int) = ((i % wd : Nat) : Int) := by rw [Int.tmod_eq_emod_of_nonneg (by omega)]; exact (Int.natCast_emod i wd).symm
                have kq : (i : Int).tdiv (wd : Int) = ((i / wd : Nat) : Int) := by rw [Int.tdiv_eq_ediv_of_nonneg (by omega)]; exact (Int.natCast_ediv i wd).symm
                have kn : ¬ (wd : Int) = 0 := by omega
                obtain ⟨a, ha⟩ : ∃ a, i % wd = a := ⟨_, rfl⟩
                obtain ⟨c, hc⟩ : ∃ a, i / wd = a := ⟨_, rfl⟩
                rw [ha] at kr
                rw [hc] at kq
                have ha2 : a < wd := by rw [← ha]; exact Nat.mod_lt _ hw1
                have hc2 : c ≤ i := by rw [← hc]; exact Nat.div_le_self _ _
                have k1 : IntKind.i64.wrap ((c : Nat) : Int) = (c : Int) := IntWalk.i64_in _ (by omega)
                have C1 := Lib.hid (fun W => l00In_any (a : Int) (x : Int) ((x : Int) + (1 + (dx : Int)) - 1) W)
                have C2 := Lib.hid (fun W => l00In_any (c : Int) (y : Int) ((y : Int) + (1 + (dy : Int)) - 1) W)
                obtain ⟨b1, hb1⟩ : ∃ b, inB (a : Int) (x : Int) ((x : Int) + (1 + (dx : Int)) - 1) = b := ⟨_, rfl⟩
                obtain ⟨b2, hb2⟩ : ∃ b, inB (c : Int) (y : Int) ((y : Int) + (1 + (dy : Int)) - 1) = b := ⟨_, rfl⟩
                rw [hb1] at C1
                rw [hb2] at C2
                clear hb1 hb2 ha hc
                obtain ⟨u, hu, hf⟩ := HD.out.cell i hlt
                have HD3 := Lib.hid (HD.out.set i (!bk))
                go_wp2_with fail
                refine (C1.out _).mono ?_
                rintro e w' ⟨rfl, rfl⟩
                cases b1 with
                | false =>
                  go_wp2_with fail
                  go_roundw
                  case rel => exact ⟨i + 1, _, by omega, by go_num, HD⟩
                  case measure => simp [intOf]; omega
                | true =>
                  go_wp2_with fail
                  refine (C2.out _).mono ?_
                  rintro e w' ⟨rfl, rfl⟩
                  cases b2 with
                  | false =>
                    go_wp2_with fail
                    go_roundw
                    case rel => exact ⟨i + 1, _, by omega, by go_num, HD⟩
                    case measure => simp [intOf]; omega
                  | true =>
                    clear HD
                    go_wp2_with fail
                    go_roundw
                    case rel => exact ⟨i + 1, _, by omega, by go_num, HD3⟩
                    case measure => simp [intOf]; omega
              · obtain rfl : N = i := by omega
                go_wp2_with fail
                go_roundw
                case rel => exact ⟨k - 1, m6, _, by omega, by go_num, by omega, HD⟩
                case measure => simp [intOf]; omega
          · obtain rfl : k = 0 := by omega
            have HBo := Lib.hid (own_bools HD.out.own HD.out.len)
            have HLn := Lib.hid HD.out.len
            have C := Lib.hid (CM.out N bs _ HLn.out HBo.out rfl)
            go_wp2_with fail
            refine C.out.mono ?_
            rintro e w4 ⟨g, cap, rfl, hown, hb4⟩
            have hl := HD.out.lt
            have hsz := HD.out.far.size
            have hp4 := (hb4.block _ (Array.getElem?_eq_some_iff.1 HD.out.pic).1).trans HD.out.pic
            have hfr := free_of_one hp4
            have hc4 := cell_of_one hp4
            have HF := Lib.hid ((HD.out.far.trans ⟨hb4.os, hb4.tape, hb4.output, hb4.size, fun k hk _ => hb4.block k hk⟩ : Far p (p + 1) w w4).setCell w.heap.size 0 (.slice (some ⟨g, 0, none⟩) h cap) (Nat.le_refl _))
            have HSs := Lib.hid (((HD.out.src.bel hb4 HD.out.src.lt).bel ((Below.refl w.heap.size w4).setCell (p := ⟨w.heap.size, 0, none⟩) (Nat.le_refl _) (.slice (some ⟨g, 0, none⟩) h cap)) hl).more (show m' ≤ m + 300 by omega))
            have HO := Lib.hid (Joins.ownsRow_le (own_set (u := .slice (some ⟨g, 0, none⟩) h cap) hown hp4 (by decide)) hsz)
            have HPo : Hid ((w4.setCell ⟨w.heap.size, 0, none⟩ (.slice (some ⟨g, 0, none⟩) h cap)).cell? ⟨w.heap.size, 0, none⟩ = some (.slice (some ⟨g, 0, none⟩) h cap)) := cell_of_one (one_setCell hp4)
            obtain ⟨ff, hff⟩ : ∃ ff : Nat → Nat → Bool, (fun y x => bs.getD (y * wd + x) false) = ff := ⟨_, rfl⟩
            rw [hff] at HO
            clear hown hb4 hp4 hff HD hsz HBo HLn CM C
            go_wp2_with fail
            exact bodyPost_ret (v := .agg #[.slice (some ⟨g, 0, none⟩) h cap]) (by simp [results, Tryd.results77, go_sem, HPo.out]) rfl ⟨ff, g, cap, rfl, HO.out, HSs.out, HF.out⟩
  · go_wp2_with fail
    go_loopw [56] (fun iv wr => ∃ (k m' : Nat) (bs : List Bool), k ≤ N ∧ iv = .int .i64 (k : Int) ∧ m' ≤ m + 1 + k ∧ Hid (DrSt w wr p v ns N m' bs)) (fun iv _ => N - (intOf iv).toNat)
    case atStart => exact ⟨0, _, _, Nat.zero_le _, rfl, by omega, HD⟩
    case round =>
      clear HD
      obtain ⟨k, m', bs, hkN, rfl, hm', HD⟩ := hrel
      by_cases hlt : k < N
      · have kk : (k : Int) < (N : Int) := by omega
        go_wp2_with fail
        refine (one_any p v ns m' 5 _ HD.out.src (by omega) (by omega)).mono ?_
        rintro e w2 ⟨⟨b, rfl⟩, hd⟩
        have HD2 := Lib.hid (HD.out.draw hd)
        clear hd HD
        obtain ⟨u, hu, hf⟩ := HD2.out.cell k hlt
        have HD3 := Lib.hid (HD2.out.set k (!b))
        clear HD2
        go_wp2_with fail
        go_roundw
        case rel => exact ⟨k + 1, m' + 1, _, by omega, by go_num, by omega, HD3⟩
        case measure => simp [intOf]; omega
      · obtain rfl : N = k := by omega
        go_wp2_with fail
        refine (pick_any p v ns _ 4 _ HD.out.src (by omega) (by omega)).mono ?_
        rintro e w3 ⟨⟨kc, hkc, rfl⟩, hd⟩
        have HD5 := Lib.hid (HD.out.draw hd)
        have hkc4 : kc ≤ 3 := by omega
        obtain ⟨m5, bs5, hm5, HD5⟩ : ∃ m5 bs5, m5 ≤ m + N + 3 ∧ Hid (DrSt w w3 p v ns N m5 bs5) := ⟨_, _, by omega, HD5⟩
        clear hd HD hkc
        go_wp2_with fail
        go_loopw [13] (fun kv wr => ∃ (k m' : Nat) (bs : List Bool), k ≤ 3 ∧ kv = .int .i64 (k : Int) ∧ m' ≤ m + N + 3 + 5 * (3 - k) ∧ Hid (DrSt w wr p v ns N m' bs)) (fun kv _ => (intOf kv).toNat)
        case atStart => exact ⟨kc, m5, bs5, hkc4, rfl, by omega, HD5⟩
        case round =>
          clear HD5
          obtain ⟨k, m', bs, hk3, rfl, hm', HD⟩ := hrel
          by_cases hk0 : 0 < k
          · go_wp2_with fail
            refine (pick_any p v ns m' (wd : Int) _ HD.out.src (by omega) (by omega)).mono ?_
            rintro e wa ⟨⟨x, hx, rfl⟩, hd⟩
            have HDa := Lib.hid (HD.out.draw hd)
            have hx2 : x < wd := by omega
            clear hd HD hx
            go_wp2_with fail
            refine (pick_any p v ns (m' + 1) (h : Int) _ HDa.out.src (by omega) (by omega)).mono ?_
            rintro e wb ⟨⟨y, hy, rfl⟩, hd⟩
            have HDb := Lib.hid (HDa.out.draw hd)
            have hy2 : y < h := by omega
            clear hd HDa hy
            go_wp2_with fail
            refine (pick_any p v ns (m' + 1 + 1) ((wd : Int) - (x : Int)) _ HDb.out.src (by omega) (by omega)).mono ?_
            rintro e wc ⟨⟨dx, hdx, rfl⟩, hd⟩
            have HDc := Lib.hid (HDb.out.draw hd)
            have hdx2 : dx < wd := by omega
            clear hd HDb hdx
            go_wp2_with fail
            refine (pick_any p v ns (m' + 1 + 1 + 1) ((h : Int) - (y : Int)) _ HDc.out.src (by omega) (by omega)).mono ?_
            rintro e we ⟨⟨dy, hdy, rfl⟩, hd⟩
            have HDe := Lib.hid (HDc.out.draw hd)
            have hdy2 : dy < h := by omega
            clear hd HDc hdy
            go_wp2_with fail
            refine (one_any p v ns (m' + 1 + 1 + 1 + 1) 3 _ HDe.out.src (by omega) (by omega)).mono ?_
            rintro e wf ⟨⟨bk, rfl⟩, hd⟩
            have HDf := Lib.hid (HDe.out.draw hd)
            clear hd HDe
            obtain ⟨m6, hm6, HD6⟩ : ∃ m6, m6 ≤ m + N + 3 + 5 * (3 - (k - 1)) ∧ Hid (DrSt w wf p v ns N m6 bs) := ⟨_, by omega, HDf⟩
            clear HDf
            go_wp2_with fail
            go_loopw [109] (fun iv wr => ∃ (i : Nat) (bs : List Bool), i ≤ N ∧ iv = .int .i64 (i : Int) ∧ Hid (DrSt w wr p v ns N m6 bs)) (fun iv _ => N - (intOf iv).toNat)
            case atStart => exact ⟨0, _, Nat.zero_le _, rfl, HD6⟩
            case round =>
              clear HD6
              obtain ⟨i, bs, hiN, rfl, HD⟩ := hrel
              by_cases hlt : i < N
              · have kk : (i : Int) < (N : Int) := by omega
                have kr : (i : Int).tmod (wd : Int) = ((i % wd : Nat) : Int) := by rw [Int.tmod_eq_emod_of_nonneg (by omega)]; exact (Int.natCast_emod i wd).symm
                have kq : (i : Int).tdiv (wd : Int) = ((i / wd : Nat) : Int) := by rw [Int.tdiv_eq_ediv_of_nonneg (by omega)]; exact (Int.natCast_ediv i wd).symm
                have kn : ¬ (wd : Int) = 0 := by omega
                obtain ⟨a, ha⟩ : ∃ a, i % wd = a := ⟨_, rfl⟩
                obtain ⟨c, hc⟩ : ∃ a, i / wd = a := ⟨_, rfl⟩
                rw [ha] at kr
                rw [hc] at kq
                have ha2 : a < wd := by rw [← ha]; exact Nat.mod_lt _ hw1
                have hc2 : c ≤ i := by rw [← hc]; exact Nat.div_le_self _ _
                have k1 : IntKind.i64.wrap ((c : Nat) : Int) = (c : Int) := IntWalk.i64_in _ (by omega)
                have C1 := Lib.hid (fun W => l00In_any (a : Int) (x : Int) ((x : Int) + (1 + (dx : Int)) - 1) W)
                have C2 := Lib.hid (fun W => l00In_any (c : Int) (y : Int) ((y : Int) + (1 + (dy : Int)) - 1) W)
                obtain ⟨b1, hb1⟩ : ∃ b, inB (a : Int) (x : Int) ((x : Int) + (1 + (dx : Int)) - 1) = b := ⟨_, rfl⟩
                obtain ⟨b2, hb2⟩ : ∃ b, inB (c : Int) (y : Int) ((y : Int) + (1 + (dy : Int)) - 1) = b := ⟨_, rfl⟩
                rw [hb1] at C1
                rw [hb2] at C2
                clear hb1 hb2 ha hc
                obtain ⟨u, hu, hf⟩ := HD.out.cell i hlt
                have HD3 := Lib.hid (HD.out.set i (!bk))
                go_wp2_with fail
                refine (C1.out _).mono ?_
                rintro e w' ⟨rfl, rfl⟩
                cases b1 with
                | false =>
                  go_wp2_with fail
                  go_roundw
                  case rel => exact ⟨i + 1, _, by omega, by go_num, HD⟩
                  case measure => simp [intOf]; omega
                | true =>
                  go_wp2_with fail
                  refine (C2.out _).mono ?_
                  rintro e w' ⟨rfl, rfl⟩
                  cases b2 with
                  | false =>
                    go_wp2_with fail
                    go_roundw
                    case rel => exact ⟨i + 1, _, by omega, by go_num, HD⟩
                    case measure => simp [intOf]; omega
                  | true =>
                    clear HD
                    go_wp2_with fail
                    go_roundw
                    case rel => exact ⟨i + 1, _, by omega, by go_num, HD3⟩
                    case measure => simp [intOf]; omega
              · obtain rfl : N = i := by omega
                go_wp2_with fail
                go_roundw
                case rel => exact ⟨k - 1, m6, _, by omega, by go_num, by omega, HD⟩
                case measure => simp [intOf]; omega
          · obtain rfl : k = 0 := by omega
            have HBo := Lib.hid (own_bools HD.out.own HD.out.len)
            have HLn := Lib.hid HD.out.len
            have C := Lib.hid (CM.out N bs _ HLn.out HBo.out rfl)
            go_wp2_with fail
            refine C.out.mono ?_
            rintro e w4 ⟨g, cap, rfl, hown, hb4⟩
            have hl := HD.out.lt
            have hsz := HD.out.far.size
            have hp4 := (hb4.block _ (Array.getElem?_eq_some_iff.1 HD.out.pic).1).trans HD.out.pic
            have hfr := free_of_one hp4
            have hc4 := cell_of_one hp4
            have HF := Lib.hid ((HD.out.far.trans ⟨hb4.os, hb4.tape, hb4.output, hb4.size, fun k hk _ => hb4.block k hk⟩ : Far p (p + 1) w w4).setCell w.heap.size 0 (.slice (some ⟨g, 0, none⟩) h cap) (Nat.le_refl _))
            have HSs := Lib.hid (((HD.out.src.bel hb4 HD.out.src.lt).bel ((Below.refl w.heap.size w4).setCell (p := ⟨w.heap.size, 0, none⟩) (Nat.le_refl _) (.slice (some ⟨g, 0, none⟩) h cap)) hl).more (show m' ≤ m + 300 by omega))
            have HO := Lib.hid (Joins.ownsRow_le (own_set (u := .slice (some ⟨g, 0, none⟩) h cap) hown hp4 (by decide)) hsz)
            have HPo : Hid ((w4.setCell ⟨w.heap.size, 0, none⟩ (.slice (some ⟨g, 0, none⟩) h cap)).cell? ⟨w.heap.size, 0, none⟩ = some (.slice (some ⟨g, 0, none⟩) h cap)) := cell_of_one (one_setCell hp4)
            obtain ⟨ff, hff⟩ : ∃ ff : Nat → Nat → Bool, (fun y x => bs.getD (y * wd + x) false) = ff := ⟨_, rfl⟩
            rw [hff] at HO
            clear hown hb4 hp4 hff HD hsz HBo HLn CM C
            go_wp2_with fail
            exact bodyPost_ret (v := .agg #[.slice (some ⟨g, 0, none⟩) h cap]) (by simp [results, Tryd.results77, go_sem, HPo.out]) rfl ⟨ff, g, cap, rfl, HO.out, HSs.out, HF.out⟩
  · go_wp2_with fail
    refine (one_any p v ns (m + 1) 2 _ HD.out.src (by omega) (by omega)).mono ?_
    rintro e w9 ⟨⟨b, rfl⟩, hd⟩
    have HD9 := Lib.hid (HD.out.draw hd)
    clear hd HD
    have HD := HD9
    clear HD9
    go_wp2_with fail
    go_loopw [72] (fun iv wr => ∃ (k m' : Nat) (bs : List Bool), k ≤ N ∧ iv = .int .i64 (k : Int) ∧ m' ≤ m + 2 + k ∧ Hid (DrSt w wr p v ns N m' bs)) (fun iv _ => N - (intOf iv).toNat)
    case atStart => exact ⟨0, _, _, Nat.zero_le _, rfl, by omega, HD⟩
    case round =>
      clear HD
      obtain ⟨k, m', bs, hkN, rfl, hm', HD⟩ := hrel
      by_cases hlt : k < N
      · have kk : (k : Int) < (N : Int) := by omega
        obtain ⟨u, hu, hf⟩ := HD.out.cell k hlt
        have HD3 := Lib.hid (HD.out.set k (b))
        clear HD
        go_wp2_with fail
        go_roundw
        case rel => exact ⟨k + 1, m', _, by omega, by go_num, by omega, HD3⟩
        case measure => simp [intOf]; omega
      · obtain rfl : N = k := by omega
        go_wp2_with fail
        refine (pick_any p v ns _ 4 _ HD.out.src (by omega) (by omega)).mono ?_
        rintro e w3 ⟨⟨kc, hkc, rfl⟩, hd⟩
        have HD5 := Lib.hid (HD.out.draw hd)
        have hkc4 : kc ≤ 3 := by omega
        obtain ⟨m5, bs5, hm5, HD5⟩ : ∃ m5 bs5, m5 ≤ m + N + 3 ∧ Hid (DrSt w w3 p v ns N m5 bs5) := ⟨_, _, by omega, HD5⟩
        clear hd HD hkc
        go_wp2_with fail
        go_loopw [13] (fun kv wr => ∃ (k m' : Nat) (bs : List Bool), k ≤ 3 ∧ kv = .int .i64 (k : Int) ∧ m' ≤ m + N + 3 + 5 * (3 - k) ∧ Hid (DrSt w wr p v ns N m' bs)) (fun kv _ => (intOf kv).toNat)
        case atStart => exact ⟨kc, m5, bs5, hkc4, rfl, by omega, HD5⟩
        case round =>
          clear HD5
          obtain ⟨k, m', bs, hk3, rfl, hm', HD⟩ := hrel
          by_cases hk0 : 0 < k
          · go_wp2_with fail
            refine (pick_any p v ns m' (wd : Int) _ HD.out.src (by omega) (by omega)).mono ?_
            rintro e wa ⟨⟨x, hx, rfl⟩, hd⟩
            have HDa := Lib.hid (HD.out.draw hd)
            have hx2 : x < wd := by omega
            clear hd HD hx
            go_wp2_with fail
            refine (pick_any p v ns (m' + 1) (h : Int) _ HDa.out.src (by omega) (by omega)).mono ?_
            rintro e wb ⟨⟨y, hy, rfl⟩, hd⟩
            have HDb := Lib.hid (HDa.out.draw hd)
            have hy2 : y < h := by omega
            clear hd HDa hy
            go_wp2_with fail
            refine (pick_any p v ns (m' + 1 + 1) ((wd : Int) - (x : Int)) _ HDb.out.src (by omega) (by omega)).mono ?_
            rintro e wc ⟨⟨dx, hdx, rfl⟩, hd⟩
            have HDc := Lib.hid (HDb.out.draw hd)
            have hdx2 : dx < wd := by omega
            clear hd HDb hdx
            go_wp2_with fail
            refine (pick_any p v ns (m' + 1 + 1 + 1) ((h : Int) - (y : Int)) _ HDc.out.src (by omega) (by omega)).mono ?_
            rintro e we ⟨⟨dy, hdy, rfl⟩, hd⟩
            have HDe := Lib.hid (HDc.out.draw hd)
            have hdy2 : dy < h := by omega
            clear hd HDc hdy
            go_wp2_with fail
            refine (one_any p v ns (m' + 1 + 1 + 1 + 1) 3 _ HDe.out.src (by omega) (by omega)).mono ?_
            rintro e wf ⟨⟨bk, rfl⟩, hd⟩
            have HDf := Lib.hid (HDe.out.draw hd)
            clear hd HDe
            obtain ⟨m6, hm6, HD6⟩ : ∃ m6, m6 ≤ m + N + 3 + 5 * (3 - (k - 1)) ∧ Hid (DrSt w wf p v ns N m6 bs) := ⟨_, by omega, HDf⟩
            clear HDf
            go_wp2_with fail
            go_loopw [109] (fun iv wr => ∃ (i : Nat) (bs : List Bool), i ≤ N ∧ iv = .int .i64 (i : Int) ∧ Hid (DrSt w wr p v ns N m6 bs)) (fun iv _ => N - (intOf iv).toNat)
            case atStart => exact ⟨0, _, Nat.zero_le _, rfl, HD6⟩
            case round =>
              clear HD6
              obtain ⟨i, bs, hiN, rfl, HD⟩ := hrel
              by_cases hlt : i < N
              · have kk : (i : Int) < (N : Int) := by omega
                have kr : (i : Int).tmod (wd : Int) = ((i % wd : Nat) : Int) := by rw [Int.tmod_eq_emod_of_nonneg (by omega)]; exact (Int.natCast_emod i wd).symm
                have kq : (i : Int).tdiv (wd : Int) = ((i / wd : Nat) : Int) := by rw [Int.tdiv_eq_ediv_of_nonneg (by omega)]; exact (Int.natCast_ediv i wd).symm
                have kn : ¬ (wd : Int) = 0 := by omega
                obtain ⟨a, ha⟩ : ∃ a, i % wd = a := ⟨_, rfl⟩
                obtain ⟨c, hc⟩ : ∃ a, i / wd = a := ⟨_, rfl⟩
                rw [ha] at kr
                rw [hc] at kq
                have ha2 : a < wd := by rw [← ha]; exact Nat.mod_lt _ hw1
                have hc2 : c ≤ i := by rw [← hc]; exact Nat.div_le_self _ _
                have k1 : IntKind.i64.wrap ((c : Nat) : Int) = (c : Int) := IntWalk.i64_in _ (by omega)
                have C1 := Lib.hid (fun W => l00In_any (a : Int) (x : Int) ((x : Int) + (1 + (dx : Int)) - 1) W)
                have C2 := Lib.hid (fun W => l00In_any (c : Int) (y : Int) ((y : Int) + (1 + (dy : Int)) - 1) W)
                obtain ⟨b1, hb1⟩ : ∃ b, inB (a : Int) (x : Int) ((x : Int) + (1 + (dx : Int)) - 1) = b := ⟨_, rfl⟩
                obtain ⟨b2, hb2⟩ : ∃ b, inB (c : Int) (y : Int) ((y : Int) + (1 + (dy : Int)) - 1) = b := ⟨_, rfl⟩
                rw [hb1] at C1
                rw [hb2] at C2
                clear hb1 hb2 ha hc
                obtain ⟨u, hu, hf⟩ := HD.out.cell i hlt
                have HD3 := Lib.hid (HD.out.set i (!bk))
                go_wp2_with fail
                refine (C1.out _).mono ?_
                rintro e w' ⟨rfl, rfl⟩
                cases b1 with
                | false =>
                  go_wp2_with fail
                  go_roundw
                  case rel => exact ⟨i + 1, _, by omega, by go_num, HD⟩
                  case measure => simp [intOf]; omega
                | true =>
                  go_wp2_with fail
                  refine (C2.out _).mono ?_
                  rintro e w' ⟨rfl, rfl⟩
                  cases b2 with
                  | false =>
                    go_wp2_with fail
                    go_roundw
                    case rel => exact ⟨i + 1, _, by omega, by go_num, HD⟩
                    case measure => simp [intOf]; omega
                  | true =>
                    clear HD
                    go_wp2_with fail
                    go_roundw
                    case rel => exact ⟨i + 1, _, by omega, by go_num, HD3⟩
                    case measure => simp [intOf]; omega
              · obtain rfl : N = i := by omega
                go_wp2_with fail
                go_roundw
                case rel => exact ⟨k - 1, m6, _, by omega, by go_num, by omega, HD⟩
                case measure => simp [intOf]; omega
          · obtain rfl : k = 0 := by omega
            have HBo := Lib.hid (own_bools HD.out.own HD.out.len)
            have HLn := Lib.hid HD.out.len
            have C := Lib.hid (CM.out N bs _ HLn.out HBo.out rfl)
            go_wp2_with fail
            refine C.out.mono ?_
            rintro e w4 ⟨g, cap, rfl, hown, hb4⟩
            have hl := HD.out.lt
            have hsz := HD.out.far.size
            have hp4 := (hb4.block _ (Array.getElem?_eq_some_iff.1 HD.out.pic).1).trans HD.out.pic
            have hfr := free_of_one hp4
            have hc4 := cell_of_one hp4
            have HF := Lib.hid ((HD.out.far.trans ⟨hb4.os, hb4.tape, hb4.output, hb4.size, fun k hk _ => hb4.block k hk⟩ : Far p (p + 1) w w4).setCell w.heap.size 0 (.slice (some ⟨g, 0, none⟩) h cap) (Nat.le_refl _))
            have HSs := Lib.hid (((HD.out.src.bel hb4 HD.out.src.lt).bel ((Below.refl w.heap.size w4).setCell (p := ⟨w.heap.size, 0, none⟩) (Nat.le_refl _) (.slice (some ⟨g, 0, none⟩) h cap)) hl).more (show m' ≤ m + 300 by omega))
            have HO := Lib.hid (Joins.ownsRow_le (own_set (u := .slice (some ⟨g, 0, none⟩) h cap) hown hp4 (by decide)) hsz)
            have HPo : Hid ((w4.setCell ⟨w.heap.size, 0, none⟩ (.slice (some ⟨g, 0, none⟩) h cap)).cell? ⟨w.heap.size, 0, none⟩ = some (.slice (some ⟨g, 0, none⟩) h cap)) := cell_of_one (one_setCell hp4)
            obtain ⟨ff, hff⟩ : ∃ ff : Nat → Nat → Bool, (fun y x => bs.getD (y * wd + x) false) = ff := ⟨_, rfl⟩
            rw [hff] at HO
            clear hown hb4 hp4 hff HD hsz HBo HLn CM C
            go_wp2_with fail
            exact bodyPost_ret (v := .agg #[.slice (some ⟨g, 0, none⟩) h cap]) (by simp [results, Tryd.results77, go_sem, HPo.out]) rfl ⟨ff, g, cap, rfl, HO.out, HSs.out, HF.out⟩
  · go_wp2_with fail
    refine (pick_any p v ns _ 4 _ HD.out.src (by omega) (by omega)).mono ?_
    rintro e w3 ⟨⟨kc, hkc, rfl⟩, hd⟩
    have HD5 := Lib.hid (HD.out.draw hd)
    have hkc4 : kc ≤ 3 := by omega
    obtain ⟨m5, bs5, hm5, HD5⟩ : ∃ m5 bs5, m5 ≤ m + N + 3 ∧ Hid (DrSt w w3 p v ns N m5 bs5) := ⟨_, _, by omega, HD5⟩
    clear hd HD hkc
    go_wp2_with fail
    go_loopw [13] (fun kv wr => ∃ (k m' : Nat) (bs : List Bool), k ≤ 3 ∧ kv = .int .i64 (k : Int) ∧ m' ≤ m + N + 3 + 5 * (3 - k) ∧ Hid (DrSt w wr p v ns N m' bs)) (fun kv _ => (intOf kv).toNat)
    case atStart => exact ⟨kc, m5, bs5, hkc4, rfl, by omega, HD5⟩
    case round =>
      clear HD5
      obtain ⟨k, m', bs, hk3, rfl, hm', HD⟩ := hrel
      by_cases hk0 : 0 < k
      · go_wp2_with fail
        refine (pick_any p v ns m' (wd : Int) _ HD.out.src (by omega) (by omega)).mono ?_
        rintro e wa ⟨⟨x, hx, rfl⟩, hd⟩
        have HDa := Lib.hid (HD.out.draw hd)
        have hx2 : x < wd := by omega
        clear hd HD hx
        go_wp2_with fail
        refine (pick_any p v ns (m' + 1) (h : Int) _ HDa.out.src (by omega) (by omega)).mono ?_
        rintro e wb ⟨⟨y, hy, rfl⟩, hd⟩
        have HDb := Lib.hid (HDa.out.draw hd)
        have hy2 : y < h := by omega
        clear hd HDa hy
        go_wp2_with fail
        refine (pick_any p v ns (m' + 1 + 1) ((wd : Int) - (x : Int)) _ HDb.out.src (by omega) (by omega)).mono ?_
        rintro e wc ⟨⟨dx, hdx, rfl⟩, hd⟩
        have HDc := Lib.hid (HDb.out.draw hd)
        have hdx2 : dx < wd := by omega
        clear hd HDb hdx
        go_wp2_with fail
        refine (pick_any p v ns (m' + 1 + 1 + 1) ((h : Int) - (y : Int)) _ HDc.out.src (by omega) (by omega)).mono ?_
        rintro e we ⟨⟨dy, hdy, rfl⟩, hd⟩
        have HDe := Lib.hid (HDc.out.draw hd)
        have hdy2 : dy < h := by omega
        clear hd HDc hdy
        go_wp2_with fail
        refine (one_any p v ns (m' + 1 + 1 + 1 + 1) 3 _ HDe.out.src (by omega) (by omega)).mono ?_
        rintro e wf ⟨⟨bk, rfl⟩, hd⟩
        have HDf := Lib.hid (HDe.out.draw hd)
        clear hd HDe
        obtain ⟨m6, hm6, HD6⟩ : ∃ m6, m6 ≤ m + N + 3 + 5 * (3 - (k - 1)) ∧ Hid (DrSt w wf p v ns N m6 bs) := ⟨_, by omega, HDf⟩
        clear HDf
        go_wp2_with fail
        go_loopw [109] (fun iv wr => ∃ (i : Nat) (bs : List Bool), i ≤ N ∧ iv = .int .i64 (i : Int) ∧ Hid (DrSt w wr p v ns N m6 bs)) (fun iv _ => N - (intOf iv).toNat)
        case atStart => exact ⟨0, _, Nat.zero_le _, rfl, HD6⟩
        case round =>
          clear HD6
          obtain ⟨i, bs, hiN, rfl, HD⟩ := hrel
          by_cases hlt : i < N
          · have kk : (i : Int) < (N : Int) := by omega
            have kr : (i : Int).tmod (wd : Int) = ((i % wd : Nat) : Int) := by rw [Int.tmod_eq_emod_of_nonneg (by omega)]; exact (Int.natCast_emod i wd).symm
            have kq : (i : Int).tdiv (wd : Int) = ((i / wd : Nat) : Int) := by rw [Int.tdiv_eq_ediv_of_nonneg (by omega)]; exact (Int.natCast_ediv i wd).symm
            have kn : ¬ (wd : Int) = 0 := by omega
            obtain ⟨a, ha⟩ : ∃ a, i % wd = a := ⟨_, rfl⟩
            obtain ⟨c, hc⟩ : ∃ a, i / wd = a := ⟨_, rfl⟩
            rw [ha] at kr
            rw [hc] at kq
            have ha2 : a < wd := by rw [← ha]; exact Nat.mod_lt _ hw1
            have hc2 : c ≤ i := by rw [← hc]; exact Nat.div_le_self _ _
            have k1 : IntKind.i64.wrap ((c : Nat) : Int) = (c : Int) := IntWalk.i64_in _ (by omega)
            have C1 := Lib.hid (fun W => l00In_any (a : Int) (x : Int) ((x : Int) + (1 + (dx : Int)) - 1) W)
            have C2 := Lib.hid (fun W => l00In_any (c : Int) (y : Int) ((y : Int) + (1 + (dy : Int)) - 1) W)
            obtain ⟨b1, hb1⟩ : ∃ b, inB (a : Int) (x : Int) ((x : Int) + (1 + (dx : Int)) - 1) = b := ⟨_, rfl⟩
            obtain ⟨b2, hb2⟩ : ∃ b, inB (c : Int) (y : Int) ((y : Int) + (1 + (dy : Int)) - 1) = b := ⟨_, rfl⟩
            rw [hb1] at C1
            rw [hb2] at C2
            clear hb1 hb2 ha hc
            obtain ⟨u, hu, hf⟩ := HD.out.cell i hlt
            have HD3 := Lib.hid (HD.out.set i (!bk))
            go_wp2_with fail
            refine (C1.out _).mono ?_
            rintro e w' ⟨rfl, rfl⟩
            cases b1 with
            | false =>
              go_wp2_with fail
              go_roundw
              case rel => exact ⟨i + 1, _, by omega, by go_num, HD⟩
              case measure => simp [intOf]; omega
            | true =>
              go_wp2_with fail
              refine (C2.out _).mono ?_
              rintro e w' ⟨rfl, rfl⟩
              cases b2 with
              | false =>
                go_wp2_with fail
                go_roundw
                case rel => exact ⟨i + 1, _, by omega, by go_num, HD⟩
                case measure => simp [intOf]; omega
              | true =>
                clear HD
                go_wp2_with fail
                go_roundw
                case rel => exact ⟨i + 1, _, by omega, by go_num, HD3⟩
                case measure => simp [intOf]; omega
          · obtain rfl : N = i := by omega
            go_wp2_with fail
            go_roundw
            case rel => exact ⟨k - 1, m6, _, by omega, by go_num, by omega, HD⟩
            case measure => simp [intOf]; omega
      · obtain rfl : k = 0 := by omega
        have HBo := Lib.hid (own_bools HD.out.own HD.out.len)
        have HLn := Lib.hid HD.out.len
        have C := Lib.hid (CM.out N bs _ HLn.out HBo.out rfl)
        go_wp2_with fail
        refine C.out.mono ?_
        rintro e w4 ⟨g, cap, rfl, hown, hb4⟩
        have hl := HD.out.lt
        have hsz := HD.out.far.size
        have hp4 := (hb4.block _ (Array.getElem?_eq_some_iff.1 HD.out.pic).1).trans HD.out.pic
        have hfr := free_of_one hp4
        have hc4 := cell_of_one hp4
        have HF := Lib.hid ((HD.out.far.trans ⟨hb4.os, hb4.tape, hb4.output, hb4.size, fun k hk _ => hb4.block k hk⟩ : Far p (p + 1) w w4).setCell w.heap.size 0 (.slice (some ⟨g, 0, none⟩) h cap) (Nat.le_refl _))
        have HSs := Lib.hid (((HD.out.src.bel hb4 HD.out.src.lt).bel ((Below.refl w.heap.size w4).setCell (p := ⟨w.heap.size, 0, none⟩) (Nat.le_refl _) (.slice (some ⟨g, 0, none⟩) h cap)) hl).more (show m' ≤ m + 300 by omega))
        have HO := Lib.hid (Joins.ownsRow_le (own_set (u := .slice (some ⟨g, 0, none⟩) h cap) hown hp4 (by decide)) hsz)
        have HPo : Hid ((w4.setCell ⟨w.heap.size, 0, none⟩ (.slice (some ⟨g, 0, none⟩) h cap)).cell? ⟨w.heap.size, 0, none⟩ = some (.slice (some ⟨g, 0, none⟩) h cap)) := cell_of_one (one_setCell hp4)
        obtain ⟨ff, hff⟩ : ∃ ff : Nat → Nat → Bool, (fun y x => bs.getD (y * wd + x) false) = ff := ⟨_, rfl⟩
        rw [hff] at HO
        clear hown hb4 hp4 hff HD hsz HBo HLn CM C
        go_wp2_with fail
        exact bodyPost_ret (v := .agg #[.slice (some ⟨g, 0, none⟩) h cap]) (by simp [results, Tryd.results77, go_sem, HPo.out]) rfl ⟨ff, g, cap, rfl, HO.out, HSs.out, HF.out⟩
end Go.Proofs.YtabkkpifkkgpeaaDoor

/- Contracts of single functions, and plain lemmas, on which the exact laws of this seat rest; each holds under the conditions that it states. -/
namespace Go.Proofs.YtabkkpifkkgpeaaDoor
set_option linter.unusedVariables false
set_option linter.unusedSimpArgs false
open Go.RowKit

/-! ### a picture that is made of a function -/
theorem rowOf_size (f : Nat → Bool) (n : Nat) : (rowOf f n).size = n := by simp [rowOf, ByteArray.size, mkRow]
theorem rowOf_get (f : Nat → Bool) (n x : Nat) (h : x < (rowOf f n).size) : (rowOf f n)[x]'h = if f x = true then 35 else 46 := by
  have hx : x < n := by rwa [rowOf_size] at h
  have : (rowOf f n)[x]'h = (mkRow f n)[x]'(by rw [mkRow_len]; exact hx) := by
    simp [rowOf, ByteArray.getElem_eq_getElem_data]
  rw [this]
  simp [mkRow]
theorem mkPic_getD (wd h : Nat) (f : Nat → Nat → Bool) {y : Nat} (hy : y < h) : (mkPic wd h f).getD y ByteArray.empty = rowOf (f y) wd := by
  simp [mkPic, List.getD, hy]
theorem mkPic_row0 (wd h : Nat) (f : Nat → Nat → Bool) (hh : 1 ≤ h) : (row0 (mkPic wd h f)).size = wd := by
  show ((mkPic wd h f).getD 0 ByteArray.empty).size = wd
  rw [mkPic_getD wd h f (by omega), rowOf_size]
theorem mkPic_pix (wd h : Nat) (f : Nat → Nat → Bool) {y x : Nat} (hy : y < h) (hx : x < wd) : pixF (mkPic wd h f) y x = f y x := by
  unfold pixF
  rw [mkPic_getD wd h f hy, blackAt_eq _ _ (by rw [rowOf_size]; exact hx), rowOf_get]
  cases f y x <;> rfl
theorem mkPic_valid (wd h : Nat) (f : Nat → Nat → Bool) (hw : 1 ≤ wd ∧ wd ≤ 16) (hh : 1 ≤ h ∧ h ≤ 16) : validB (mkPic wd h f) = true := by
  unfold validB
  simp only [Bool.and_eq_true, decide_eq_true_eq, mkPic_len, mkPic_row0 wd h f hh.1]
  refine ⟨⟨⟨⟨hh.1, hh.2⟩, hw.1⟩, hw.2⟩, ?_⟩
  rw [List.all_eq_true]
  intro s hs
  obtain ⟨y, hy, rfl⟩ := List.mem_iff_getElem.1 hs
  rw [mkPic_len] at hy
  have e : (mkPic wd h f)[y] = rowOf (f y) wd := by simp [mkPic]
  rw [e]
  unfold rowB
  simp only [Bool.and_eq_true, decide_eq_true_eq]
  refine ⟨rowOf_size _ _, ?_⟩
  rw [List.all_eq_true]
  intro c hc
  have hc' : c ∈ mkRow (f y) wd := by simpa [rowOf] using hc
  obtain ⟨x, hx, rfl⟩ := List.mem_iff_getElem.1 hc'
  simp only [mkRow, List.getElem_map, List.getElem_range]
  cases f y x <;> decide
end Go.Proofs.YtabkkpifkkgpeaaDoor

/- Contracts of single functions, and plain lemmas, on which the exact laws of this seat rest; each holds under the conditions that it states. -/
namespace Go.Proofs.YtabkkpifkkgpeaaDoor
set_option linter.unusedVariables false
set_option linter.unusedSimpArgs false
open Go.RowKit
attribute [local go_sem] Oper.semAt_some

/-- a fresh picture of some size that was drawn -/
def SomePic (a b : Nat) (w : World) (e : Ending) (w' : World) : Prop :=
  ∃ (f : Nat → Nat → Bool) (g cap : Nat), e = .returned (.agg #[.slice (some ⟨g, 0, none⟩) b cap]) ∧ OwnP w' w.heap.size (.slice (some ⟨g, 0, none⟩) b cap) (mkPic a b f) ∧ Below w.heap.size w w'

set_option maxHeartbeats 1000000 in
set_option maxRecDepth 100000 in
theorem B10Picture_any (v : Value) (ns : List Nat) (w : World) (hv : SlY w v ns) (hby : ∀ i, ns.getD i 0 < 256) (hN : ns.length ≤ maxLen) :
    Calls Tryd.prog 20 #[v] w (fun e w' => ∃ a b, (1 ≤ a ∧ a ≤ 7) ∧ (1 ≤ b ∧ b ≤ 7) ∧ SomePic a b w e w') := by
  have hbA := Joins.below_alloc1 w (.cells #[.slice none 0 0] 42)
  have hpA := heap_alloc_last w (.cells #[.slice none 0 0] 42)
  obtain ⟨W0, hW0⟩ : ∃ W0, w.alloc (.cells #[.slice none 0 0] 42) = W0 := ⟨_, rfl⟩
  have hs0 : W0.heap.size = w.heap.size + 1 := by rw [← hW0]; simp
  rw [hW0] at hbA hpA
  have CF := Lib.hid (from_any v ns W0 (hv.below hbA) hby hN)
  have HW := Lib.hid hW0
  obtain ⟨ao, cap0, rfl⟩ := hv.form
  clear hv hW0 hby
  go_enter Tryd.func20, Tryd.ntmps20
  go_wp2_with fail
  rw [HW.out]
  refine CF.out.mono ?_
  rintro e wB ⟨rfl, hS, hb⟩
  have hpB : wB.heap[w.heap.size]? = some (.cells #[.slice none 0 0] 42 (0, 0)) := (hb.block _ (by omega)).trans hpA
  have hbB := hbA.trans (hb.mono (by omega))
  obtain ⟨p, hp⟩ : ∃ p, W0.heap.size = p := ⟨_, rfl⟩
  rw [hp] at hS ⊢
  have hpw : w.heap.size < p := by omega
  have HS := Lib.hid hS
  have HPB := Lib.hid hpB
  have HBB := Lib.hid hbB
  clear hS hb hpA hbA hs0 hp CF hpB hbB
  go_wp2_with fail
  refine (pick_any p _ ns 0 7 wB HS.out (by omega) (by omega)).mono ?_
  rintro e wC ⟨⟨r, hr, rfl⟩, hd⟩
  have HDC := Lib.hid hd
  clear hd
  go_wp2_with fail
  refine (pick_any p _ ns (0 + 1) 7 wC HDC.out.1 (by omega) (by omega)).mono ?_
  rintro e wD ⟨⟨q, hq, rfl⟩, hd⟩
  have HDD := Lib.hid hd
  clear hd
  have HDr := Lib.hid (l01Draw_any (r + 1) (q + 1) p (.slice ao ns.length cap0) ns (0 + 1 + 1) wD HDD.out.1 (by omega) (by omega) (by omega))
  rw [show ((r + 1 : Nat) : Int) = (1 : Int) + (r : Int) from by omega, show ((q + 1 : Nat) : Int) = (1 : Int) + (q : Int) from by omega] at HDr
  go_wp2_with fail
  refine HDr.out.mono ?_
  rintro e wE ⟨f, g, cap, rfl, hown, hsE, hfE⟩
  have hl1 := HDC.out.2.size
  have hl2 := HDD.out.2.size
  have hl3 := HBB.out.size
  have hp1 := HDC.out.2.cells HPB.out (Or.inl hpw)
  have hp2 := HDD.out.2.cells hp1 (Or.inl hpw)
  have hp3 := hfE.cells hp2 (Or.inl hpw)
  have hfr := free_of_one hp3
  have hcE := cell_of_one hp3
  have HB := Lib.hid (((hfE.bel (HDD.out.2.bel (HDC.out.2.bel HBB.out (Or.inl (by omega)) (Nat.le_refl _)) (Or.inl (by omega)) (Nat.le_refl _)) (Or.inl (by omega)) (Nat.le_refl _))).setCell (p := ⟨w.heap.size, 0, none⟩) (Nat.le_refl _) (.slice (some ⟨g, 0, none⟩) (q + 1) cap))
  have HO := Lib.hid (Joins.ownsRow_le (own_set (u := .slice (some ⟨g, 0, none⟩) (q + 1) cap) hown hp3 (by decide)) (show w.heap.size ≤ wD.heap.size by omega))
  have HPo : Hid ((wE.setCell ⟨w.heap.size, 0, none⟩ (.slice (some ⟨g, 0, none⟩) (q + 1) cap)).cell? ⟨w.heap.size, 0, none⟩ = some (.slice (some ⟨g, 0, none⟩) (q + 1) cap)) := cell_of_one (one_setCell hp3)
  clear hown hsE hfE hp1 hp2 hp3
  go_wp2_with fail
  exact bodyPost_ret (v := .agg #[.slice (some ⟨g, 0, none⟩) (q + 1) cap]) (by simp [results, Tryd.results20, go_sem, HPo.out]) rfl ⟨r + 1, q + 1, by omega, by omega, f, g, cap, rfl, HO.out, HB.out⟩

set_option maxHeartbeats 1000000 in
set_option maxRecDepth 100000 in
theorem B10Like_any (v u : Value) (ns : List Nat) (ss : List ByteArray) (w : World) (hv : SlY w v ns) (hby : ∀ i, ns.getD i 0 < 256) (hN : ns.length ≤ maxLen) (hu : Sl w u ss) (hok : validB ss = true) :
    Calls Tryd.prog 28 #[v, .agg #[u]] w (SomePic (row0 ss).size ss.length w) := by
  have V := vp_of hok
  obtain ⟨W0, hW0⟩ : ∃ W0, (w.alloc (.cells #[u] 42)).alloc (.cells #[.slice none 0 0] 42) = W0 := ⟨_, rfl⟩
  have hbA : Below w.heap.size w W0 := by rw [← hW0]; exact Joins.below_alloc2 w _ _
  have hpA : W0.heap[w.heap.size + 1]? = some (.cells #[.slice none 0 0] 42 (0, 0)) := by rw [← hW0]; exact heap_alloc2_new _ _ _
  have hqA : W0.heap[w.heap.size]? = some (.cells #[u] 42 (0, 0)) := by
    rw [← hW0, Below.heap_alloc _ _ _ (by simp)]; exact heap_alloc_last w _
  have hs0 : W0.heap.size = w.heap.size + 1 + 1 := by rw [← hW0]; simp
  have HPic : Hid (∀ W, Below W0.heap.size W0 W → PicAt W w.heap.size 0 ss) := fun W hb => ⟨hok, u, cell_of_one ((hb.block _ (by omega)).trans hqA), (hu.below hbA).below hb⟩
  have CF := Lib.hid (from_any v ns W0 (hv.below hbA) hby hN)
  have HW := Lib.hid hW0
  obtain ⟨ao, cap0, rfl⟩ := hv.form
  have h1 := V.w1
  have h2 := V.w16
  have h3 := V.n1
  have h4 := V.n16
  obtain ⟨a, ha⟩ : ∃ a, (row0 ss).size = a := ⟨_, rfl⟩
  obtain ⟨b, hb'⟩ : ∃ a, ss.length = a := ⟨_, rfl⟩
  rw [ha] at h1 h2 ⊢
  rw [hb'] at h3 h4 ⊢
  have HAe := Lib.hid ha
  have HBe := Lib.hid hb'
  clear ha hb'
  clear hv hW0 hby hu hqA
  go_enter Tryd.func28, Tryd.ntmps28
  go_wp2_with fail
  rw [HW.out]
  refine CF.out.mono ?_
  rintro e wB ⟨rfl, hS, hb⟩
  have hpB : wB.heap[w.heap.size + 1]? = some (.cells #[.slice none 0 0] 42 (0, 0)) := (hb.block _ (by omega)).trans hpA
  have hbB := hbA.trans (hb.mono (by omega))
  have HC1 := Lib.hid (l01Width_any w.heap.size 0 ss wB (HPic.out _ hb))
  have HC2 := Lib.hid (l01Height_any w.heap.size 0 ss wB (HPic.out _ hb))
  obtain ⟨p, hp⟩ : ∃ p, W0.heap.size = p := ⟨_, rfl⟩
  rw [hp] at hS ⊢
  have hpw : w.heap.size + 1 < p := by omega
  have HPB := Lib.hid hpB
  have HBB := Lib.hid hbB
  rw [HAe.out] at HC1
  rw [HBe.out] at HC2
  have HDr := Lib.hid (l01Draw_any a b p (.slice ao ns.length cap0) ns 0 wB hS (by omega) (by omega) (by omega))
  have hl := hbB.size
  clear hS hb hpA hbA hs0 hp CF hpB hbB HPic V hok
  go_wp2_with fail
  refine HC1.out.mono ?_
  rintro e w' ⟨rfl, rfl⟩
  go_wp2_with fail
  refine HC2.out.mono ?_
  rintro e w' ⟨rfl, rfl⟩
  go_wp2_with fail
  refine HDr.out.mono ?_
  rintro e wE ⟨f, g, cap, rfl, hown, hsE, hfE⟩
  have hp3 := hfE.cells HPB.out (Or.inl hpw)
  have hfr := free_of_one hp3
  have hcE := cell_of_one hp3
  have HB := Lib.hid ((hfE.bel HBB.out (Or.inl (by omega)) (Nat.le_refl _)).setCell (p := ⟨w.heap.size + 1, 0, none⟩) (by simp) (.slice (some ⟨g, 0, none⟩) b cap))
  have HO := Lib.hid (Joins.ownsRow_le (own_set (u := .slice (some ⟨g, 0, none⟩) b cap) hown hp3 (by decide)) hl)
  have HPo : Hid ((wE.setCell ⟨w.heap.size + 1, 0, none⟩ (.slice (some ⟨g, 0, none⟩) b cap)).cell? ⟨w.heap.size + 1, 0, none⟩ = some (.slice (some ⟨g, 0, none⟩) b cap)) := cell_of_one (one_setCell hp3)
  clear hown hsE hfE hp3 HDr HC1 HC2
  go_wp2_with fail
  exact bodyPost_ret (v := .agg #[.slice (some ⟨g, 0, none⟩) b cap]) (by simp [results, Tryd.results28, go_sem, HPo.out]) rfl ⟨f, g, cap, rfl, HO.out, HB.out⟩
end Go.Proofs.YtabkkpifkkgpeaaDoor
