/- Contracts of single functions, and plain lemmas, on which the exact laws of this seat rest; each holds under the conditions that it states. -/
import Derived.Test.YthblhibkbcmbaaaDoorKA
import Derived.Test.YthblhibkbcmbaaaDoorCVB
import Derived.Test.YthblhibkbcmbaaaDoorFa
import Derived.Test.YthblhibkbcmbaaaDoorCV5
import Derived.Test.YthblhibkbcmbaaaDoorKS
import Derived.Test.YthblhibkbcmbaaaDoorSc
namespace Go.Proofs.YthblhibkbcmbaaaDoor
set_option linter.unusedVariables false
set_option linter.unusedSimpArgs false
open Go.RowKit
attribute [local go_sem] Oper.semAt_some

theorem l08_side (n : Nat) (hn : n ≤ 4) : sd (n : Int) = ((2 ^ n : Nat) : Int) := by
  rcases (by omega : n = 0 ∨ n = 1 ∨ n = 2 ∨ n = 3 ∨ n = 4) with rfl | rfl | rfl | rfl | rfl <;> decide
theorem pixI_mk2 {a b : Nat} {f : Nat → Nat → Bool} {x y : Nat} (hx : x < a) (hy : y < b) : pixI (mkPic a b f) (x : Int) (y : Int) = f y x := by
  have h1 : (row0 (mkPic a b f)).size = a := mkPic_row0 _ _ _ (by omega)
  have h2 : (mkPic a b f).length = b := mkPic_len _ _ _
  have h3 := mkPic_pix a b f hy hx
  unfold pixI
  rw [h1, h2]
  have h4 : insB a b (x : Int) (y : Int) = true := by
    unfold insB inB
    simp only [Bool.and_eq_true, decide_eq_true_eq]
    omega
  rw [h4, Bool.true_and, Int.toNat_natCast, Int.toNat_natCast]
  exact h3
theorem alF_mk (c n : Nat) (G : Nat → Nat → Bool) : alF c n (pxN (mkPic (2 ^ n) (2 ^ n) G)) = alF c n G := by
  funext i
  obtain ⟨x, y, hx, hy, e⟩ := cvF_in c n i
  unfold alF
  rw [e]
  exact pixI_mk2 hx hy
theorem own_box2 {w : World} {base n s P : Nat} {e : TypeId} {v : Value} {xs : List Value} (h : w.ownsRow base e s v n xs) (cs : Array Value) (t : TypeId) : (w.alloc (.cells cs t)).ownsRow base e s v n xs := World.ownsRow.alloc h _

set_option maxHeartbeats 8000000 in
set_option maxRecDepth 100000 in
theorem spec_Paint (c n : Nat) (v : Value) (rs : List Int) (w : World) (hc : c < 4) (hn : n ≤ 4) (hl : rs.length ≤ 257) (hv : SlN w v rs) :
    Calls Tryd.prog 15 #[.int .i64 (c : Int), .int .i64 (n : Int), v] w (SaysPic (pfV c n rs) (pfOk c n rs) w) := by
  obtain ⟨i0, hi0, hz0, hz1, hz2⟩ := info_parts Tryd.info4
  have CA := Lib.hid (fun W => l08Ask_any (c : Int) (n : Int) W)
  have hask : (inB (c : Int) 0 3 && inB (n : Int) 0 4) = true := by simp [inB]; omega
  rw [hask] at CA
  have CX := Lib.hid (fun W => l08Spots_any c n W hc hn)
  have HLf := Lib.hid (cvF_len c n)
  have h256 : 2 ^ n * 2 ^ n ≤ 256 := Nat.mul_le_mul (pow_le16 hn) (pow_le16 hn)
  have hs16 : 1 ≤ 2 ^ n ∧ 2 ^ n ≤ 16 := ⟨Nat.one_le_two_pow, pow_le16 hn⟩
  have CSd := Lib.hid (fun W => l08Side_any (n : Int) W (by omega) (by omega))
  rw [l08_side n hn] at CSd
  have CIn := Lib.hid (fun (a b c : Int) W => l00In_any a b c W)
  have CMk := Lib.hid (fun (G : Nat → Nat → Bool) (lb cap : Nat) (W : World) (hB : Bools W lb 0 (listF G (2 ^ n) (2 ^ n * 2 ^ n))) => make_list (cap := cap) G lb (2 ^ n) (2 ^ n) W hs16 hs16 hB)
  have CAl : Hid (∀ (pb : Nat) (G : Nat → Nat → Bool) (W : World), PicAt W pb 0 (mkPic (2 ^ n) (2 ^ n) G) → Calls Tryd.prog 30 #[.pointer (some ⟨pb, 0, none⟩), .int .i64 (c : Int), .int .i64 (n : Int)] W (fun e w' => ∃ v, e = .returned v ∧ OwnN w' W.heap.size v (rnL (alF c n G) (2 ^ n * 2 ^ n)) ∧ Below W.heap.size W w')) := fun pb G W h => by
    have := l08Along_any pb 0 c n _ W h hc hn
    rwa [alF_mk] at this
  have CSm := Lib.hid (fun (u : Value) (xs : List Int) (W : World) (h1 : xs.length ≤ 1048576) (hu : SlN W u xs) (hv : SlN W v rs) => sameN_any u v xs rs W h1 (by omega) hu hv)
  have hvalid : ∀ G, validB (mkPic (2 ^ n) (2 ^ n) G) = true := fun G => mkPic_valid _ _ G hs16 hs16
  have HVa := Lib.hid hvalid
  have HIn := Lib.hid (cvF_in c n)
  have HSl := Lib.hid (fun W (hb : Below w.heap.size w W) => SlN.below hv hb)
  have HOk : Hid (pfOk c n rs = (okK (2 ^ n * 2 ^ n) rs rs.length && decide (rnL (alF c n (gK (cvF c n) rs rs.length)) (2 ^ n * 2 ^ n) = rs))) := by
    show _ = _
    unfold pfOk pfN pfG
    rw [hask, Bool.true_and]
    simp only [Int.toNat_natCast]
  have HV : Hid (pfV c n rs = if pfOk c n rs = true then mkPic (2 ^ n) (2 ^ n) (gK (cvF c n) rs rs.length) else []) := by
    show _ = _
    unfold pfV pfG
    simp only [Int.toNat_natCast]
  obtain ⟨ok, hok⟩ : ∃ o, pfOk c n rs = o := ⟨_, rfl⟩
  obtain ⟨V, hV⟩ : ∃ o, pfV c n rs = o := ⟨_, rfl⟩
  rw [hok] at HOk HV ⊢
  rw [hV] at HV ⊢
  have HRn := Lib.hid (fun f => rnL_len f (2 ^ n * 2 ^ n))
  obtain ⟨S, hS⟩ : ∃ S, cvF c n = S := ⟨_, rfl⟩
  rw [hS] at HLf CX HOk HV HIn
  unfold TookSpots at CX
  obtain ⟨sd2, hsd⟩ : ∃ s, 2 ^ n = s := ⟨_, rfl⟩
  rw [hsd] at HLf h256 hs16 CSd CMk CAl HVa HIn HOk HV HRn
  obtain ⟨N, hN⟩ : ∃ N, sd2 * sd2 = N := ⟨_, rfl⟩
  rw [hN] at HLf h256 CMk CAl HOk HRn
  have HNN := Lib.hid hN
  rw [HLf.out] at CX
  obtain ⟨ao, vcap, rfl⟩ := hv.form
  obtain ⟨m, hm⟩ : ∃ m, rs.length = m := ⟨_, rfl⟩
  have HG0 : Hid (boolV (listF (gK S rs 0) sd2 N) = List.replicate N (.bool false)) := listF_false sd2 N
  have HGs : Hid (∀ k, gK S rs (k + 1) = ptG S (decide (k % 2 = 1)) (atK rs k) (rs.getD k 0).toNat (gK S rs k)) := fun _ => rfl
  have HPs : Hid (∀ b a j G, ptG S b a (j + 1) G = updB (ptG S b a j G) (sY S (a + j)) (sX S (a + j)) b) := fun _ _ _ _ => rfl
  have HP0 : Hid (∀ b a G, ptG S b a 0 G = G) := fun _ _ _ => rfl
  have HAs : Hid (∀ k, atK rs (k + 1) = atK rs k + (rs.getD k 0).toNat) := fun _ => rfl
  have HA0 : Hid (atK rs 0 = 0) := rfl
  have HKs : Hid (∀ k, okK N rs (k + 1) = (okK N rs k && inB (rs.getD k 0) 0 ((N : Int) - (atK rs k : Int)))) := fun _ => rfl
  have HKn : Hid (∀ k, k < m → inB (rs.getD k 0) 0 ((N : Int) - (atK rs k : Int)) = false → okK N rs m = false) := fun k hk h => okK_no hk h
  have HKa : Hid (∀ k, okK N rs k = true → atK rs k ≤ N) := fun k h => okK_at h
  have HR : Hid (∀ j, j < m → ∀ W, Below w.heap.size w W → ∃ b off, ao = some ⟨b, off, none⟩ ∧ W.cell? ⟨b, off + j, none⟩ = some (.int .i64 (rs.getD j 0)) ∧ b < W.heap.size) := fun j hj W hb => by
    rcases hv with ⟨_, _, e, h0⟩ | ⟨b, off, c2, e, hpos, hbl, hcell⟩
    · rw [h0] at hm
      simp at hm
      omega
    · injection e with e1 _ _
      exact ⟨b, off, e1, cell_kept hb (hcell j (by omega)), Nat.lt_of_lt_of_le hbl hb.size⟩
  rw [hm] at HOk HV HSl CSm hl ⊢
  have hm257 : (m : Int) ≤ 257 := by omega
  have hp6 := heap_alloc_last w (.cells #[.slice none 0 0] 29)
  have hb6 := Joins.below_alloc1 w (.cells #[.slice none 0 0] 29)
  have HP6 := Lib.hid hp6
  have HB6 := Lib.hid hb6
  clear hp6 hb6 hvalid hask hS hsd hN hm hok hV hv hc hn
  go_enter Tryd.func15, Tryd.ntmps15
  go_wp2_with fail
  refine (CA.out _).mono ?_
  rintro e w1 ⟨rfl, rfl⟩
  go_wp2_with fail
  refine (CX.out _).mono ?_
  rintro e w1 ⟨g, cap, rfl, hown, hb1⟩
  have HS1 := Lib.hid (OwnS.spots hown)
  have HB1 := Lib.hid (HB6.out.trans (hb1.mono HB6.out.size))
  have HP1 : Hid (w1.heap[w.heap.size]? = some (.cells #[.slice none 0 0] 29 (0, 0))) := (hb1.block _ (by simp)).trans HP6.out
  clear hown hb1 HB6 HP6
  go_wp2_with (at_make; refine wpList_make_full _ rfl _ _ 73 rfl w1.heap.size 4 i0 (.bool false) 1 Tryd.underlying73 hi0 hz0 hz1 _ _ _ _ N rfl rfl rfl rfl ?c1 ?c2 (by simp) ?_)
  case c1 => rw [hz2]; omega
  case c2 => unfold maxLen; omega
  intro w2 hown hgr
  rw [toList_madeCells_one, ← HG0.out] at hown
  have hb2 : Below w1.heap.size w1 w2 := (Below.refl _ _).grown hgr (Nat.le_refl _) (fun k h => by cases h)
  have HL2 := Lib.hid hown
  have HS2 := Lib.hid (HS1.out.below hb2)
  have HB2 := Lib.hid (HB1.out.trans (hb2.mono HB1.out.size))
  have hltw : w.heap.size < w1.heap.size := (Array.getElem?_eq_some_iff.1 HP1.out).1
  have HP2 : Hid (w2.heap[w.heap.size]? = some (.cells #[.slice none 0 0] 29 (0, 0))) := (hb2.block _ hltw).trans HP1.out
  have hgw : g < w1.heap.size := HS1.out.1
  obtain ⟨lb, hlb⟩ : ∃ z, w1.heap.size = z := ⟨_, rfl⟩
  have hlw : lb < w2.heap.size := by rw [← hlb]; exact (hown.lt _ rfl).2
  rw [hlb] at HL2 hltw hgw ⊢
  have HLb2 : Hid (w1.heap.size = lb) := hlb
  clear hown hgr hb2 HS1 HB1 HP1 hlb
  have HW2 : Hid (∀ wr, Below lb w2 wr → Below w.heap.size w wr) := fun wr h => HB2.out.trans (h.mono (Nat.le_of_lt hltw))
  have HP6 : Hid (∀ wr, Below lb w2 wr → wr.heap[w.heap.size]? = some (.cells #[.slice none 0 0] 29 (0, 0))) := fun wr h => (h.block _ hltw).trans HP2.out
  have HS6 : Hid (∀ wr, Below lb w2 wr → ∀ i, i < N → wr.cell? ⟨g, i * 2, none⟩ = some (.int .i64 (S.getD i (0, 0)).1) ∧ wr.cell? ⟨g, i * 2 + 1, none⟩ = some (.int .i64 (S.getD i (0, 0)).2)) := fun wr h i hi => by
    have t := HS2.out.2 i (by rw [HLf.out]; exact hi)
    have ck : ∀ o, wr.cell? ⟨g, o, none⟩ = w2.cell? ⟨g, o, none⟩ := fun o => by
      unfold World.cell?
      rw [h.block g hgw]
    exact ⟨(ck _).trans t.1, (ck _).trans t.2⟩
  have HLw := Lib.hid hlw
  have HWl := Lib.hid (Nat.le_of_lt hltw)
  clear HP2 HS2 HB2 HLb2 hgw hltw hlw
  go_wp2_with fail
  go_loopw [10, 11] (fun av kv wr => ∃ k : Nat, k ≤ m ∧ kv = .int .i64 (k : Int) ∧ av = .int .i64 ((atK rs k : Nat) : Int) ∧ Hid (okK N rs k = true) ∧ Hid (wr.ownsRow lb 4 1 (.slice (some ⟨lb, 0, none⟩) N N) N (boolV (listF (gK S rs k) sd2 N))) ∧ Hid (Below lb w2 wr)) (fun _ kv _ => m - (intOf kv).toNat)
  case atStart => exact ⟨0, Nat.zero_le _, rfl, by rw [HA0.out]; rfl, Lib.hid rfl, HL2, Lib.hid (Below.refl _ _)⟩
  case round =>
    clear HL2
    obtain ⟨k, hk, rfl, rfl, HKk, HO, HB⟩ := hrel
    by_cases hlt : k < m
    · have kk : (k : Int) < (m : Int) := by omega
      have kk0 : (0 : Int) ≤ (k : Int) := by omega
      obtain ⟨b, off, hao, hcell, hbl⟩ := HR.out k hlt wr (HW2.out wr HB.out)
      have HRk : Hid (∀ W, Below lb w2 W → W.cell? ⟨b, off + k, none⟩ = some (.int .i64 (rs.getD k 0)) ∧ b < W.heap.size) := fun W hb => by
        obtain ⟨b', off', hao', hcell', hbl'⟩ := HR.out k hlt W (HW2.out W hb)
        rw [hao] at hao'
        injection hao' with e
        injection e with e1 e2
        subst e1
        subst e2
        exact ⟨hcell', hbl'⟩
      subst hao
      have HGk := Lib.hid (HGs.out k)
      have HAk := Lib.hid (HAs.out k)
      have HOkk := Lib.hid (HKs.out k)
      have HNo := Lib.hid (HKn.out k hlt)
      have haN := HKa.out k HKk.out
      obtain ⟨a, ha⟩ : ∃ a, atK rs k = a := ⟨_, rfl⟩
      obtain ⟨q, hq⟩ : ∃ q, rs.getD k 0 = q := ⟨_, rfl⟩
      rw [ha, hq] at HGk HAk HOkk HNo
      rw [ha] at haN ⊢
      rw [hq] at hcell HRk
      have kw : IntKind.i64.wrap ((N : Int) - (a : Int)) = (N : Int) - (a : Int) := IntWalk.i64_in _ (by omega)
      clear ha hq
      go_wp2_with fail
      refine (CIn.out _ _ _ _).mono ?_
      rintro e wr ⟨rfl, rfl⟩
      cases hin : inB q 0 ((N : Int) - (a : Int)) with
      | false =>
        have hko := HNo.out hin
        have hokf : ok = false := by rw [HOk.out, hko]; rfl
        have hVf : V = [] := by rw [HV.out, hokf]; rfl
        subst hokf
        subst hVf
        have hp := HP6.out wr HB.out
        have hfr : wr.frozen? ⟨w.heap.size, 0, none⟩ = false := free_of_one hp
        have hc2 : wr.cell? ⟨w.heap.size, 0, none⟩ = some (.slice none 0 0) := cell_of_one hp
        have P0 := Lib.hid hp
        have B0 := Lib.hid (HW2.out wr HB.out)
        clear hin hko hp hcell
        go_wp2_with fail
        refine bodyPost_ret (v := .tuple #[.agg #[.slice none 0 0], .bool false]) (by simp [results, Tryd.results15, go_sem, cell_of_one (one_setCell P0.out)]) rfl ⟨_, _, _, rfl, World.ownsRow_nil _ _ _ _, B0.out.setCell (by simp) _⟩
      | true =>
        have hin2 : 0 ≤ q ∧ q ≤ (N : Int) - (a : Int) := by simpa only [inB, Bool.and_eq_true, decide_eq_true_eq] using hin
        have HOk1 : Hid (okK N rs (k + 1) = true) := by show _ = _; rw [HOkk.out, hin, HKk.out]; rfl
        obtain ⟨qn, rfl⟩ : ∃ qn : Nat, q = (qn : Int) := ⟨q.toNat, by omega⟩
        have haq : a + qn ≤ N := by omega
        rw [Int.toNat_natCast] at HGk HAk
        have kq : IntKind.i64.wrap ((a : Int) + (qn : Int)) = (a : Int) + (qn : Int) := IntWalk.i64_in _ (by omega)
        obtain ⟨r, pb, kt, kb, hpb⟩ := tmod_cases k
        rw [← hpb] at HGk
        have HKt := Lib.hid kt
        have HKb := Lib.hid kb
        have HPj := Lib.hid (fun j => HPs.out pb a j (gK S rs k))
        have HPz := Lib.hid (HP0.out pb a (gK S rs k))
        obtain ⟨G0, hG0⟩ : ∃ G, gK S rs k = G := ⟨_, rfl⟩
        rw [hG0] at HGk HPj HPz HO
        clear hin hin2 hcell kt kb hpb hG0 kw HOkk HNo
        go_wp2_with fail
        go_loopw [12] (fun iv wr => ∃ j : Nat, j ≤ qn ∧ iv = .int .i64 ((a + j : Nat) : Int) ∧ Hid (wr.ownsRow lb 4 1 (.slice (some ⟨lb, 0, none⟩) N N) N (boolV (listF (ptG S pb a j G0) sd2 N))) ∧ Hid (Below lb w2 wr)) (fun iv _ => a + qn - (intOf iv).toNat)
        case atStart => exact ⟨0, Nat.zero_le _, rfl, by rw [HPz.out]; exact HO, HB⟩
        case round =>
          clear HO HB
          obtain ⟨j, hj, rfl, HOj, HBj⟩ := hrel
          obtain ⟨hcell, hblw⟩ := HRk.out wr HBj.out
          by_cases hjl : j < qn
          · obtain ⟨px, py, hpx, hpy, he⟩ := HIn.out (a + j)
            have hsx : sX S (a + j) = px := by unfold sX; rw [he]; rfl
            have hsy : sY S (a + j) = py := by unfold sY; rw [he]; rfl
            have hcl : ((a + j : Nat) : Int) < (a : Int) + (qn : Int) := by omega
            have hs := HS6.out wr HBj.out (a + j) (by omega)
            rw [he] at hs
            have HPt := Lib.hid (HPj.out j)
            rw [hsx, hsy] at HPt
            obtain ⟨i, hi⟩ : ∃ i, a + j = i := ⟨_, rfl⟩
            have hiN : i < N := by omega
            have ki0 : (0 : Int) ≤ (i : Int) := by omega
            have kiN : (i : Int) < (N : Int) := by omega
            rw [hi] at hs hcl ⊢
            have HC : Hid (∀ W, Below wr.heap.size wr W → W.cell? ⟨g, i * 2, none⟩ = some (.int .i64 (px : Int)) ∧ W.cell? ⟨g, i * 2 + 1, none⟩ = some (.int .i64 (py : Int))) := fun W hb => ⟨cell_kept hb hs.1, cell_kept hb hs.2⟩
            have hQN : py * sd2 + px < N := by
              have h3 : (py + 1) * sd2 ≤ sd2 * sd2 := Nat.mul_le_mul_right _ hpy
              rw [HNN.out, Nat.add_mul, Nat.one_mul] at h3
              omega
            have HSet := Lib.hid (listF_set (ptG S pb a j G0) sd2 N py px pb hpx)
            rw [← HPt.out] at HSet
            have hlen : (boolV (listF (ptG S pb a j G0) sd2 N)).length = N := by unfold boolV; rw [List.length_map, listF_len]
            obtain ⟨L0, hL0⟩ : ∃ L, boolV (listF (ptG S pb a j G0) sd2 N) = L := ⟨_, rfl⟩
            rw [hL0] at HSet HOj hlen
            have km : (py : Int) * (sd2 : Int) = ((py * sd2 : Nat) : Int) := by push_cast; rfl
            obtain ⟨Q, hQ⟩ : ∃ z, py * sd2 = z := ⟨_, rfl⟩
            rw [hQ] at hQN HSet km
            have HLb : Hid (∀ W, Below wr.heap.size wr W → W.cell? ⟨lb, Q + px, none⟩ = some (L0.getD (Q + px) undef) ∧ W.frozen? ⟨lb, Q + px, none⟩ = false) := fun W hb => by
              have o := own_below HOj.out hb
              refine ⟨?_, o.frozenAt _⟩
              rw [o.cellAt (Q + px) (by omega), List.getD_eq_getElem?_getD, List.getElem?_eq_getElem (by omega)]
              rfl
            have HK1 : Hid (IntKind.i64.wrap ((py : Int) * (sd2 : Int)) = (Q : Int)) := by show _ = _; rw [km]; exact IntWalk.i64_in _ (by omega)
            have HK2 : Hid (IntKind.i64.wrap ((Q : Int) + (px : Int)) = (Q : Int) + (px : Int)) := IntWalk.i64_in _ (by omega)
            have HK3 : Hid ((Q : Int) + (px : Int) < (N : Int)) := by show _ < _; omega
            have HK4 : Hid ((0 : Int) ≤ (Q : Int) + (px : Int)) := by show _ ≤ _; omega
            have HK5 : Hid (((Q : Int) + (px : Int)).toNat = Q + px) := by show _ = _; omega
            have HK6 := Lib.hid hblw
            have HIj : Hid ((a + (j + 1) : Nat) = i + 1) := by show _ = _; omega
            have HlenL := Lib.hid hlen
            have HwiL : Hid (lb ≤ wr.heap.size) := by show _ ≤ _; have := HBj.out.size; have := HLw.out; omega
            have HI9 : Hid (i < a + qn) := by show _ < _; omega
            have Hjn : Hid (j + 1 ≤ qn) := by show _ ≤ _; omega
            clear hs hsx hsy he hQ km hL0 hlen hpx hpy hi hiN hQN
            go_upto_region 14 with fail
            refine wp_region_inv_at (by kernel_rfl) (fun A0 L A W => ∃ (b0 b1 b2 b3 b4 b5 b6 b7 b8 b9 b10 b11 b12 b13 b14 b15 b16 b17 b18 b19 : Bool) (v58 v59 v60 v61 v62 v63 v64 v65 v66 v67 v68 v69 v70 v71 v72 v73 v74 v75 v76 : Value), L = #[b0, b1, b2, b3, b4, b5, b6, b7, b8, b9, b10, b11, b12, b13, b14, b15, b16, b17, b18, b19] ∧ A = (((((((((((((((((((A0.put (some 58) v58).put (some 59) v59).put (some 60) v60).put (some 61) v61).put (some 62) v62).put (some 63) v63).put (some 64) v64).put (some 65) v65).put (some 66) v66).put (some 67) v67).put (some 68) v68).put (some 69) v69).put (some 70) v70).put (some 71) v71).put (some 72) v72).put (some 73) v73).put (some 74) v74).put (some 75) v75).put (some 76) v76) ∧ (∃ Wp, Below wr.heap.size wr Wp ∧ W = (if b19 = true then Wp.setCell ⟨lb, Q + px, none⟩ (.bool pb) else Wp)) ∧ Hid (b0 = true → v58 = .slice (some ⟨lb, 0, none⟩) N N) ∧ Hid (b1 = true → v59 = .slice (some ⟨g, 0, none⟩) N cap) ∧ Hid (b2 = true → v60 = .int .i64 (i : Int)) ∧ Hid (b3 = true → v61 = .pointer (some ⟨g, i * 2, none⟩)) ∧ Hid (b4 = true → v62 = .pointer (some ⟨g, i * 2 + 1, none⟩)) ∧ Hid (b5 = true → v63 = .int .i64 (py : Int)) ∧ Hid (b6 = true → v64 = .int .i64 (n : Int)) ∧ Hid (b7 = true → v65 = .int .i64 (sd2 : Int)) ∧ Hid (b8 = true → v66 = .int .i64 (Q : Int)) ∧ Hid (b9 = true → v67 = .slice (some ⟨g, 0, none⟩) N cap) ∧ Hid (b10 = true → v68 = .int .i64 (i : Int)) ∧ Hid (b11 = true → v69 = .pointer (some ⟨g, i * 2, none⟩)) ∧ Hid (b12 = true → v70 = .pointer (some ⟨g, i * 2, none⟩)) ∧ Hid (b13 = true → v71 = .int .i64 (px : Int)) ∧ Hid (b14 = true → v72 = .int .i64 ((Q : Int) + (px : Int))) ∧ Hid (b15 = true → v73 = .int .i64 (k : Int)) ∧ Hid (b16 = true → v74 = .int .i64 r) ∧ Hid (b17 = true → v75 = .bool pb) ∧ Hid (b18 = true → v76 = .pointer (some ⟨lb, Q + px, none⟩)) ∧ Hid ((b0 = false → b19 = false) ∧ (b1 = false → b19 = false) ∧ (b2 = false → b19 = false) ∧ (b3 = false → b19 = false) ∧ (b4 = false → b19 = false) ∧ (b5 = false → b19 = false) ∧ (b6 = false → b19 = false) ∧ (b7 = false → b19 = false) ∧ (b8 = false → b19 = false) ∧ (b9 = false → b19 = false) ∧ (b10 = false → b19 = false) ∧ (b11 = false → b19 = false) ∧ (b12 = false → b19 = false) ∧ (b13 = false → b19 = false) ∧ (b14 = false → b19 = false) ∧ (b15 = false → b19 = false) ∧ (b16 = false → b19 = false) ∧ (b17 = false → b19 = false) ∧ (b18 = false → b19 = false))) ?_ ?_ ?_
            · intro A0
              refine ⟨false, false, false, false, false, false, false, false, false, false, false, false, false, false, false, false, false, false, false, false, A0.tmps.getD 58 undef, A0.tmps.getD 59 undef, A0.tmps.getD 60 undef, A0.tmps.getD 61 undef, A0.tmps.getD 62 undef, A0.tmps.getD 63 undef, A0.tmps.getD 64 undef, A0.tmps.getD 65 undef, A0.tmps.getD 66 undef, A0.tmps.getD 67 undef, A0.tmps.getD 68 undef, A0.tmps.getD 69 undef, A0.tmps.getD 70 undef, A0.tmps.getD 71 undef, A0.tmps.getD 72 undef, A0.tmps.getD 73 undef, A0.tmps.getD 74 undef, A0.tmps.getD 75 undef, A0.tmps.getD 76 undef, rfl, (by simp only [put_self]), ⟨_, (Below.refl _ _).drew, rfl⟩, Lib.hid (fun hf => by cases hf), Lib.hid (fun hf => by cases hf), Lib.hid (fun hf => by cases hf), Lib.hid (fun hf => by cases hf), Lib.hid (fun hf => by cases hf), Lib.hid (fun hf => by cases hf), Lib.hid (fun hf => by cases hf), Lib.hid (fun hf => by cases hf), Lib.hid (fun hf => by cases hf), Lib.hid (fun hf => by cases hf), Lib.hid (fun hf => by cases hf), Lib.hid (fun hf => by cases hf), Lib.hid (fun hf => by cases hf), Lib.hid (fun hf => by cases hf), Lib.hid (fun hf => by cases hf), Lib.hid (fun hf => by cases hf), Lib.hid (fun hf => by cases hf), Lib.hid (fun hf => by cases hf), Lib.hid (fun hf => by cases hf), Lib.hid ⟨fun _ => rfl, fun _ => rfl, fun _ => rfl, fun _ => rfl, fun _ => rfl, fun _ => rfl, fun _ => rfl, fun _ => rfl, fun _ => rfl, fun _ => rfl, fun _ => rfl, fun _ => rfl, fun _ => rfl, fun _ => rfl, fun _ => rfl, fun _ => rfl, fun _ => rfl, fun _ => rfl, fun _ => rfl⟩⟩
            · intro L A W hI i hi o ho K' hK
              have hlt := (ready_left hi).1
              have hun := (ready_left hi).2
              have haf := ready_after hi ho
              clear hi
              obtain ⟨b0, b1, b2, b3, b4, b5, b6, b7, b8, b9, b10, b11, b12, b13, b14, b15, b16, b17, b18, b19, v58, v59, v60, v61, v62, v63, v64, v65, v66, v67, v68, v69, v70, v71, v72, v73, v74, v75, v76, rfl, rfl, hB, h0, h1, h2, h3, h4, h5, h6, h7, h8, h9, h10, h11, h12, h13, h14, h15, h16, h17, h18, p⟩ := hI
              have hc : i = 0 ∨ i = 1 ∨ i = 2 ∨ i = 3 ∨ i = 4 ∨ i = 5 ∨ i = 6 ∨ i = 7 ∨ i = 8 ∨ i = 9 ∨ i = 10 ∨ i = 11 ∨ i = 12 ∨ i = 13 ∨ i = 14 ∨ i = 15 ∨ i = 16 ∨ i = 17 ∨ i = 18 ∨ i = 19 := by
                simp at hlt
                omega
              rcases hc with rfl | rfl | rfl | rfl | rfl | rfl | rfl | rfl | rfl | rfl | rfl | rfl | rfl | rfl | rfl | rfl | rfl | rfl | rfl | rfl
              all_goals (obtain rfl := Option.some.inj ho; clear ho; simp [Region.binds] at haf hun; (try simp only [List.getElem_toArray, List.getElem_cons_zero, List.getElem_cons_succ]); simp only [Act.put, List.setIfInBounds_toArray, List.set_cons_zero, List.set_cons_succ])
              · -- operation 0
                replace hK := Lib.hid hK
                have hlast : b19 = false := p.out.1 hun
                subst hlast
                obtain ⟨Wp, hB, hWp⟩ := hB
                have hWq : W = Wp := by simpa using hWp
                clear hWp
                subst hWq
                have qq := HC.out W hB
                obtain ⟨q0, q1⟩ := qq
                obtain ⟨q2, q3⟩ := HLb.out W hB
                have kt := HKt.out
                have kb := HKb.out
                have k1 := HK1.out
                have k2 := HK2.out
                have k3 := HK3.out
                have k4 := HK4.out
                have k5 := HK5.out
                have k6 := HK6.out
                subst hun
                go_simp
                exact hK.out _ _ ⟨true, b1, b2, b3, b4, b5, b6, b7, b8, b9, b10, b11, b12, b13, b14, b15, b16, b17, b18, false, .slice (some ⟨lb, 0, none⟩) N N, v59, v60, v61, v62, v63, v64, v65, v66, v67, v68, v69, v70, v71, v72, v73, v74, v75, v76, rfl, (by simp only [Act.put, List.setIfInBounds_toArray, List.set_cons_zero, List.set_cons_succ]), ⟨_, hB, rfl⟩, Lib.hid (fun _ => rfl), h1, h2, h3, h4, h5, h6, h7, h8, h9, h10, h11, h12, h13, h14, h15, h16, h17, h18, Lib.hid ⟨(fun hf => by cases hf), (fun _ => rfl), (fun _ => rfl), (fun _ => rfl), (fun _ => rfl), (fun _ => rfl), (fun _ => rfl), (fun _ => rfl), (fun _ => rfl), (fun _ => rfl), (fun _ => rfl), (fun _ => rfl), (fun _ => rfl), (fun _ => rfl), (fun _ => rfl), (fun _ => rfl), (fun _ => rfl), (fun _ => rfl), (fun _ => rfl)⟩⟩
              · -- operation 1
                replace hK := Lib.hid hK
                have hlast : b19 = false := p.out.2.1 hun
                subst hlast
                obtain ⟨Wp, hB, hWp⟩ := hB
                have hWq : W = Wp := by simpa using hWp
                clear hWp
                subst hWq
                have qq := HC.out W hB
                obtain ⟨q0, q1⟩ := qq
                obtain ⟨q2, q3⟩ := HLb.out W hB
                have kt := HKt.out
                have kb := HKb.out
                have k1 := HK1.out
                have k2 := HK2.out
                have k3 := HK3.out
                have k4 := HK4.out
                have k5 := HK5.out
                have k6 := HK6.out
                subst hun
                go_simp
                exact hK.out _ _ ⟨b0, true, b2, b3, b4, b5, b6, b7, b8, b9, b10, b11, b12, b13, b14, b15, b16, b17, b18, false, v58, .slice (some ⟨g, 0, none⟩) N cap, v60, v61, v62, v63, v64, v65, v66, v67, v68, v69, v70, v71, v72, v73, v74, v75, v76, rfl, (by simp only [Act.put, List.setIfInBounds_toArray, List.set_cons_zero, List.set_cons_succ]), ⟨_, hB, rfl⟩, h0, Lib.hid (fun _ => rfl), h2, h3, h4, h5, h6, h7, h8, h9, h10, h11, h12, h13, h14, h15, h16, h17, h18, Lib.hid ⟨(fun _ => rfl), (fun hf => by cases hf), (fun _ => rfl), (fun _ => rfl), (fun _ => rfl), (fun _ => rfl), (fun _ => rfl), (fun _ => rfl), (fun _ => rfl), (fun _ => rfl), (fun _ => rfl), (fun _ => rfl), (fun _ => rfl), (fun _ => rfl), (fun _ => rfl), (fun _ => rfl), (fun _ => rfl), (fun _ => rfl), (fun _ => rfl)⟩⟩
              · -- operation 2
                replace hK := Lib.hid hK
                have hlast : b19 = false := p.out.2.2.1 hun
                subst hlast
                obtain ⟨Wp, hB, hWp⟩ := hB
                have hWq : W = Wp := by simpa using hWp
                clear hWp
                subst hWq
                have qq := HC.out W hB
                obtain ⟨q0, q1⟩ := qq
                obtain ⟨q2, q3⟩ := HLb.out W hB
                have kt := HKt.out
                have kb := HKb.out
                have k1 := HK1.out
                have k2 := HK2.out
                have k3 := HK3.out
                have k4 := HK4.out
                have k5 := HK5.out
                have k6 := HK6.out
                subst hun
                go_simp
                exact hK.out _ _ ⟨b0, b1, true, b3, b4, b5, b6, b7, b8, b9, b10, b11, b12, b13, b14, b15, b16, b17, b18, false, v58, v59, .int .i64 (i : Int), v61, v62, v63, v64, v65, v66, v67, v68, v69, v70, v71, v72, v73, v74, v75, v76, rfl, (by simp only [Act.put, List.setIfInBounds_toArray, List.set_cons_zero, List.set_cons_succ]), ⟨_, hB, rfl⟩, h0, h1, Lib.hid (fun _ => rfl), h3, h4, h5, h6, h7, h8, h9, h10, h11, h12, h13, h14, h15, h16, h17, h18, Lib.hid ⟨(fun _ => rfl), (fun _ => rfl), (fun hf => by cases hf), (fun _ => rfl), (fun _ => rfl), (fun _ => rfl), (fun _ => rfl), (fun _ => rfl), (fun _ => rfl), (fun _ => rfl), (fun _ => rfl), (fun _ => rfl), (fun _ => rfl), (fun _ => rfl), (fun _ => rfl), (fun _ => rfl), (fun _ => rfl), (fun _ => rfl), (fun _ => rfl)⟩⟩
              · -- operation 3
                replace hK := Lib.hid hK
                have hlast : b19 = false := p.out.2.2.2.1 hun
                subst hlast
                obtain ⟨Wp, hB, hWp⟩ := hB
                have hWq : W = Wp := by simpa using hWp
                clear hWp
                subst hWq
                have qq := HC.out W hB
                obtain ⟨q0, q1⟩ := qq
                obtain ⟨q2, q3⟩ := HLb.out W hB
                have kt := HKt.out
                have kb := HKb.out
                have k1 := HK1.out
                have k2 := HK2.out
                have k3 := HK3.out
                have k4 := HK4.out
                have k5 := HK5.out
                have k6 := HK6.out
                obtain rfl := (h1.out (by simp only [haf])).symm
                obtain rfl := (h2.out (by simp only [haf])).symm
                subst hun
                go_simp
                exact hK.out _ _ ⟨b0, b1, b2, true, b4, b5, b6, b7, b8, b9, b10, b11, b12, b13, b14, b15, b16, b17, b18, false, v58, .slice (some ⟨g, 0, none⟩) N cap, .int .i64 (i : Int), .pointer (some ⟨g, i * 2, none⟩), v62, v63, v64, v65, v66, v67, v68, v69, v70, v71, v72, v73, v74, v75, v76, rfl, (by simp only [Act.put, List.setIfInBounds_toArray, List.set_cons_zero, List.set_cons_succ]), ⟨_, hB, rfl⟩, h0, Lib.hid (fun _ => rfl), Lib.hid (fun _ => rfl), Lib.hid (fun _ => rfl), h4, h5, h6, h7, h8, h9, h10, h11, h12, h13, h14, h15, h16, h17, h18, Lib.hid ⟨(fun _ => rfl), (fun _ => rfl), (fun _ => rfl), (fun hf => by cases hf), (fun _ => rfl), (fun _ => rfl), (fun _ => rfl), (fun _ => rfl), (fun _ => rfl), (fun _ => rfl), (fun _ => rfl), (fun _ => rfl), (fun _ => rfl), (fun _ => rfl), (fun _ => rfl), (fun _ => rfl), (fun _ => rfl), (fun _ => rfl), (fun _ => rfl)⟩⟩
              · -- operation 4
                replace hK := Lib.hid hK
                have hlast : b19 = false := p.out.2.2.2.2.1 hun
                subst hlast
                obtain ⟨Wp, hB, hWp⟩ := hB
                have hWq : W = Wp := by simpa using hWp
                clear hWp
                subst hWq
                have qq := HC.out W hB
                obtain ⟨q0, q1⟩ := qq
                obtain ⟨q2, q3⟩ := HLb.out W hB
                have kt := HKt.out
                have kb := HKb.out
                have k1 := HK1.out
                have k2 := HK2.out
                have k3 := HK3.out
                have k4 := HK4.out
                have k5 := HK5.out
                have k6 := HK6.out
                obtain rfl := (h3.out (by simp only [haf])).symm
                subst hun
                go_simp
                exact hK.out _ _ ⟨b0, b1, b2, b3, true, b5, b6, b7, b8, b9, b10, b11, b12, b13, b14, b15, b16, b17, b18, false, v58, v59, v60, .pointer (some ⟨g, i * 2, none⟩), .pointer (some ⟨g, i * 2 + 1, none⟩), v63, v64, v65, v66, v67, v68, v69, v70, v71, v72, v73, v74, v75, v76, rfl, (by simp only [Act.put, List.setIfInBounds_toArray, List.set_cons_zero, List.set_cons_succ]), ⟨_, hB, rfl⟩, h0, h1, h2, Lib.hid (fun _ => rfl), Lib.hid (fun _ => rfl), h5, h6, h7, h8, h9, h10, h11, h12, h13, h14, h15, h16, h17, h18, Lib.hid ⟨(fun _ => rfl), (fun _ => rfl), (fun _ => rfl), (fun _ => rfl), (fun hf => by cases hf), (fun _ => rfl), (fun _ => rfl), (fun _ => rfl), (fun _ => rfl), (fun _ => rfl), (fun _ => rfl), (fun _ => rfl), (fun _ => rfl), (fun _ => rfl), (fun _ => rfl), (fun _ => rfl), (fun _ => rfl), (fun _ => rfl), (fun _ => rfl)⟩⟩
              · -- operation 5
                replace hK := Lib.hid hK
                have hlast : b19 = false := p.out.2.2.2.2.2.1 hun
                subst hlast
                obtain ⟨Wp, hB, hWp⟩ := hB
                have hWq : W = Wp := by simpa using hWp
                clear hWp
                subst hWq
                have qq := HC.out W hB
                obtain ⟨q0, q1⟩ := qq
                obtain ⟨q2, q3⟩ := HLb.out W hB
                have kt := HKt.out
                have kb := HKb.out
                have k1 := HK1.out
                have k2 := HK2.out
                have k3 := HK3.out
                have k4 := HK4.out
                have k5 := HK5.out
                have k6 := HK6.out
                obtain rfl := (h4.out (by simp only [haf])).symm
                subst hun
                go_simp
                exact hK.out _ _ ⟨b0, b1, b2, b3, b4, true, b6, b7, b8, b9, b10, b11, b12, b13, b14, b15, b16, b17, b18, false, v58, v59, v60, v61, .pointer (some ⟨g, i * 2 + 1, none⟩), .int .i64 (py : Int), v64, v65, v66, v67, v68, v69, v70, v71, v72, v73, v74, v75, v76, rfl, (by simp only [Act.put, List.setIfInBounds_toArray, List.set_cons_zero, List.set_cons_succ]), ⟨_, hB, rfl⟩, h0, h1, h2, h3, Lib.hid (fun _ => rfl), Lib.hid (fun _ => rfl), h6, h7, h8, h9, h10, h11, h12, h13, h14, h15, h16, h17, h18, Lib.hid ⟨(fun _ => rfl), (fun _ => rfl), (fun _ => rfl), (fun _ => rfl), (fun _ => rfl), (fun hf => by cases hf), (fun _ => rfl), (fun _ => rfl), (fun _ => rfl), (fun _ => rfl), (fun _ => rfl), (fun _ => rfl), (fun _ => rfl), (fun _ => rfl), (fun _ => rfl), (fun _ => rfl), (fun _ => rfl), (fun _ => rfl), (fun _ => rfl)⟩⟩
              · -- operation 6
                replace hK := Lib.hid hK
                have hlast : b19 = false := p.out.2.2.2.2.2.2.1 hun
                subst hlast
                obtain ⟨Wp, hB, hWp⟩ := hB
                have hWq : W = Wp := by simpa using hWp
                clear hWp
                subst hWq
                have qq := HC.out W hB
                obtain ⟨q0, q1⟩ := qq
                obtain ⟨q2, q3⟩ := HLb.out W hB
                have kt := HKt.out
                have kb := HKb.out
                have k1 := HK1.out
                have k2 := HK2.out
                have k3 := HK3.out
                have k4 := HK4.out
                have k5 := HK5.out
                have k6 := HK6.out
                subst hun
                go_simp
                exact hK.out _ _ ⟨b0, b1, b2, b3, b4, b5, true, b7, b8, b9, b10, b11, b12, b13, b14, b15, b16, b17, b18, false, v58, v59, v60, v61, v62, v63, .int .i64 (n : Int), v65, v66, v67, v68, v69, v70, v71, v72, v73, v74, v75, v76, rfl, (by simp only [Act.put, List.setIfInBounds_toArray, List.set_cons_zero, List.set_cons_succ]), ⟨_, hB, rfl⟩, h0, h1, h2, h3, h4, h5, Lib.hid (fun _ => rfl), h7, h8, h9, h10, h11, h12, h13, h14, h15, h16, h17, h18, Lib.hid ⟨(fun _ => rfl), (fun _ => rfl), (fun _ => rfl), (fun _ => rfl), (fun _ => rfl), (fun _ => rfl), (fun hf => by cases hf), (fun _ => rfl), (fun _ => rfl), (fun _ => rfl), (fun _ => rfl), (fun _ => rfl), (fun _ => rfl), (fun _ => rfl), (fun _ => rfl), (fun _ => rfl), (fun _ => rfl), (fun _ => rfl), (fun _ => rfl)⟩⟩
              · -- operation 7
                replace hK := Lib.hid hK
                have hlast : b19 = false := p.out.2.2.2.2.2.2.2.1 hun
                subst hlast
                obtain ⟨Wp, hB, hWp⟩ := hB
                have hWq : W = Wp := by simpa using hWp
                clear hWp
                subst hWq
                have qq := HC.out W hB
                obtain ⟨q0, q1⟩ := qq
                obtain ⟨q2, q3⟩ := HLb.out W hB
                have kt := HKt.out
                have kb := HKb.out
                have k1 := HK1.out
                have k2 := HK2.out
                have k3 := HK3.out
                have k4 := HK4.out
                have k5 := HK5.out
                have k6 := HK6.out
                obtain rfl := (h6.out (by simp only [haf])).symm
                subst hun
                go_simp
                refine (CSd.out W).mono ?_
                rintro e W' ⟨rfl, hb⟩
                replace hb : Below W.heap.size W W' := by rw [← hb]; exact Below.refl _ _
                have hkept := fun kb (hk : kb < W.heap.size) => hb.block kb hk
                exact hK.out _ _ ⟨b0, b1, b2, b3, b4, b5, b6, true, b8, b9, b10, b11, b12, b13, b14, b15, b16, b17, b18, false, v58, v59, v60, v61, v62, v63, .int .i64 (n : Int), .int .i64 (sd2 : Int), v66, v67, v68, v69, v70, v71, v72, v73, v74, v75, v76, rfl, (by simp only [Act.put, List.setIfInBounds_toArray, List.set_cons_zero, List.set_cons_succ]), ⟨_, hB.trans (hb.mono hB.size), rfl⟩, h0, h1, h2, h3, h4, h5, Lib.hid (fun _ => rfl), Lib.hid (fun _ => rfl), h8, h9, h10, h11, h12, h13, h14, h15, h16, h17, h18, Lib.hid ⟨(fun _ => rfl), (fun _ => rfl), (fun _ => rfl), (fun _ => rfl), (fun _ => rfl), (fun _ => rfl), (fun _ => rfl), (fun hf => by cases hf), (fun _ => rfl), (fun _ => rfl), (fun _ => rfl), (fun _ => rfl), (fun _ => rfl), (fun _ => rfl), (fun _ => rfl), (fun _ => rfl), (fun _ => rfl), (fun _ => rfl), (fun _ => rfl)⟩⟩
              · -- operation 8
                replace hK := Lib.hid hK
                have hlast : b19 = false := p.out.2.2.2.2.2.2.2.2.1 hun
                subst hlast
                obtain ⟨Wp, hB, hWp⟩ := hB
                have hWq : W = Wp := by simpa using hWp
                clear hWp
                subst hWq
                have qq := HC.out W hB
                obtain ⟨q0, q1⟩ := qq
                obtain ⟨q2, q3⟩ := HLb.out W hB
                have kt := HKt.out
                have kb := HKb.out
                have k1 := HK1.out
                have k2 := HK2.out
                have k3 := HK3.out
                have k4 := HK4.out
                have k5 := HK5.out
                have k6 := HK6.out
                obtain rfl := (h5.out (by simp only [haf])).symm
                obtain rfl := (h7.out (by simp only [haf])).symm
                subst hun
                go_simp
                exact hK.out _ _ ⟨b0, b1, b2, b3, b4, b5, b6, b7, true, b9, b10, b11, b12, b13, b14, b15, b16, b17, b18, false, v58, v59, v60, v61, v62, .int .i64 (py : Int), v64, .int .i64 (sd2 : Int), .int .i64 (Q : Int), v67, v68, v69, v70, v71, v72, v73, v74, v75, v76, rfl, (by simp only [Act.put, List.setIfInBounds_toArray, List.set_cons_zero, List.set_cons_succ]), ⟨_, hB, rfl⟩, h0, h1, h2, h3, h4, Lib.hid (fun _ => rfl), h6, Lib.hid (fun _ => rfl), Lib.hid (fun _ => rfl), h9, h10, h11, h12, h13, h14, h15, h16, h17, h18, Lib.hid ⟨(fun _ => rfl), (fun _ => rfl), (fun _ => rfl), (fun _ => rfl), (fun _ => rfl), (fun _ => rfl), (fun _ => rfl), (fun _ => rfl), (fun hf => by cases hf), (fun _ => rfl), (fun _ => rfl), (fun _ => rfl), (fun _ => rfl), (fun _ => rfl), (fun _ => rfl), (fun _ => rfl), (fun _ => rfl), (fun _ => rfl), (fun _ => rfl)⟩⟩
              · -- operation 9
                replace hK := Lib.hid hK
                have hlast : b19 = false := p.out.2.2.2.2.2.2.2.2.2.1 hun
                subst hlast
                obtain ⟨Wp, hB, hWp⟩ := hB
                have hWq : W = Wp := by simpa using hWp
                clear hWp
                subst hWq
                have qq := HC.out W hB
                obtain ⟨q0, q1⟩ := qq
                obtain ⟨q2, q3⟩ := HLb.out W hB
                have kt := HKt.out
                have kb := HKb.out
                have k1 := HK1.out
                have k2 := HK2.out
                have k3 := HK3.out
                have k4 := HK4.out
                have k5 := HK5.out
                have k6 := HK6.out
                subst hun
                go_simp
                exact hK.out _ _ ⟨b0, b1, b2, b3, b4, b5, b6, b7, b8, true, b10, b11, b12, b13, b14, b15, b16, b17, b18, false, v58, v59, v60, v61, v62, v63, v64, v65, v66, .slice (some ⟨g, 0, none⟩) N cap, v68, v69, v70, v71, v72, v73, v74, v75, v76, rfl, (by simp only [Act.put, List.setIfInBounds_toArray, List.set_cons_zero, List.set_cons_succ]), ⟨_, hB, rfl⟩, h0, h1, h2, h3, h4, h5, h6, h7, h8, Lib.hid (fun _ => rfl), h10, h11, h12, h13, h14, h15, h16, h17, h18, Lib.hid ⟨(fun _ => rfl), (fun _ => rfl), (fun _ => rfl), (fun _ => rfl), (fun _ => rfl), (fun _ => rfl), (fun _ => rfl), (fun _ => rfl), (fun _ => rfl), (fun hf => by cases hf), (fun _ => rfl), (fun _ => rfl), (fun _ => rfl), (fun _ => rfl), (fun _ => rfl), (fun _ => rfl), (fun _ => rfl), (fun _ => rfl), (fun _ => rfl)⟩⟩
              · -- operation 10
                replace hK := Lib.hid hK
                have hlast : b19 = false := p.out.2.2.2.2.2.2.2.2.2.2.1 hun
                subst hlast
                obtain ⟨Wp, hB, hWp⟩ := hB
                have hWq : W = Wp := by simpa using hWp
                clear hWp
                subst hWq
                have qq := HC.out W hB
                obtain ⟨q0, q1⟩ := qq
                obtain ⟨q2, q3⟩ := HLb.out W hB
                have kt := HKt.out
                have kb := HKb.out
                have k1 := HK1.out
                have k2 := HK2.out
                have k3 := HK3.out
                have k4 := HK4.out
                have k5 := HK5.out
                have k6 := HK6.out
                subst hun
                go_simp
                exact hK.out _ _ ⟨b0, b1, b2, b3, b4, b5, b6, b7, b8, b9, true, b11, b12, b13, b14, b15, b16, b17, b18, false, v58, v59, v60, v61, v62, v63, v64, v65, v66, v67, .int .i64 (i : Int), v69, v70, v71, v72, v73, v74, v75, v76, rfl, (by simp only [Act.put, List.setIfInBounds_toArray, List.set_cons_zero, List.set_cons_succ]), ⟨_, hB, rfl⟩, h0, h1, h2, h3, h4, h5, h6, h7, h8, h9, Lib.hid (fun _ => rfl), h11, h12, h13, h14, h15, h16, h17, h18, Lib.hid ⟨(fun _ => rfl), (fun _ => rfl), (fun _ => rfl), (fun _ => rfl), (fun _ => rfl), (fun _ => rfl), (fun _ => rfl), (fun _ => rfl), (fun _ => rfl), (fun _ => rfl), (fun hf => by cases hf), (fun _ => rfl), (fun _ => rfl), (fun _ => rfl), (fun _ => rfl), (fun _ => rfl), (fun _ => rfl), (fun _ => rfl), (fun _ => rfl)⟩⟩
              · -- operation 11
                replace hK := Lib.hid hK
                have hlast : b19 = false := p.out.2.2.2.2.2.2.2.2.2.2.2.1 hun
                subst hlast
                obtain ⟨Wp, hB, hWp⟩ := hB
                have hWq : W = Wp := by simpa using hWp
                clear hWp
                subst hWq
                have qq := HC.out W hB
                obtain ⟨q0, q1⟩ := qq
                obtain ⟨q2, q3⟩ := HLb.out W hB
                have kt := HKt.out
                have kb := HKb.out
                have k1 := HK1.out
                have k2 := HK2.out
                have k3 := HK3.out
                have k4 := HK4.out
                have k5 := HK5.out
                have k6 := HK6.out
                obtain rfl := (h9.out (by simp only [haf])).symm
                obtain rfl := (h10.out (by simp only [haf])).symm
                subst hun
                go_simp
                exact hK.out _ _ ⟨b0, b1, b2, b3, b4, b5, b6, b7, b8, b9, b10, true, b12, b13, b14, b15, b16, b17, b18, false, v58, v59, v60, v61, v62, v63, v64, v65, v66, .slice (some ⟨g, 0, none⟩) N cap, .int .i64 (i : Int), .pointer (some ⟨g, i * 2, none⟩), v70, v71, v72, v73, v74, v75, v76, rfl, (by simp only [Act.put, List.setIfInBounds_toArray, List.set_cons_zero, List.set_cons_succ]), ⟨_, hB, rfl⟩, h0, h1, h2, h3, h4, h5, h6, h7, h8, Lib.hid (fun _ => rfl), Lib.hid (fun _ => rfl), Lib.hid (fun _ => rfl), h12, h13, h14, h15, h16, h17, h18, Lib.hid ⟨(fun _ => rfl), (fun _ => rfl), (fun _ => rfl), (fun _ => rfl), (fun _ => rfl), (fun _ => rfl), (fun _ => rfl), (fun _ => rfl), (fun _ => rfl), (fun _ => rfl), (fun _ => rfl), (fun hf => by cases hf), (fun _ => rfl), (fun _ => rfl), (fun _ => rfl), (fun _ => rfl), (fun _ => rfl), (fun _ => rfl), (fun _ => rfl)⟩⟩
              · -- operation 12
                replace hK := Lib.hid hK
                have hlast : b19 = false := p.out.2.2.2.2.2.2.2.2.2.2.2.2.1 hun
                subst hlast
                obtain ⟨Wp, hB, hWp⟩ := hB
                have hWq : W = Wp := by simpa using hWp
                clear hWp
                subst hWq
                have qq := HC.out W hB
                obtain ⟨q0, q1⟩ := qq
                obtain ⟨q2, q3⟩ := HLb.out W hB
                have kt := HKt.out
                have kb := HKb.out
                have k1 := HK1.out
                have k2 := HK2.out
                have k3 := HK3.out
                have k4 := HK4.out
                have k5 := HK5.out
                have k6 := HK6.out
                obtain rfl := (h11.out (by simp only [haf])).symm
                subst hun
                go_simp
                exact hK.out _ _ ⟨b0, b1, b2, b3, b4, b5, b6, b7, b8, b9, b10, b11, true, b13, b14, b15, b16, b17, b18, false, v58, v59, v60, v61, v62, v63, v64, v65, v66, v67, v68, .pointer (some ⟨g, i * 2, none⟩), .pointer (some ⟨g, i * 2, none⟩), v71, v72, v73, v74, v75, v76, rfl, (by simp only [Act.put, List.setIfInBounds_toArray, List.set_cons_zero, List.set_cons_succ]), ⟨_, hB, rfl⟩, h0, h1, h2, h3, h4, h5, h6, h7, h8, h9, h10, Lib.hid (fun _ => rfl), Lib.hid (fun _ => rfl), h13, h14, h15, h16, h17, h18, Lib.hid ⟨(fun _ => rfl), (fun _ => rfl), (fun _ => rfl), (fun _ => rfl), (fun _ => rfl), (fun _ => rfl), (fun _ => rfl), (fun _ => rfl), (fun _ => rfl), (fun _ => rfl), (fun _ => rfl), (fun _ => rfl), (fun hf => by cases hf), (fun _ => rfl), (fun _ => rfl), (fun _ => rfl), (fun _ => rfl), (fun _ => rfl), (fun _ => rfl)⟩⟩
              · -- operation 13
                replace hK := Lib.hid hK
                have hlast : b19 = false := p.out.2.2.2.2.2.2.2.2.2.2.2.2.2.1 hun
                subst hlast
                obtain ⟨Wp, hB, hWp⟩ := hB
                have hWq : W = Wp := by simpa using hWp
                clear hWp
                subst hWq
                have qq := HC.out W hB
                obtain ⟨q0, q1⟩ := qq
                obtain ⟨q2, q3⟩ := HLb.out W hB
                have kt := HKt.out
                have kb := HKb.out
                have k1 := HK1.out
                have k2 := HK2.out
                have k3 := HK3.out
                have k4 := HK4.out
                have k5 := HK5.out
                have k6 := HK6.out
                obtain rfl := (h12.out (by simp only [haf])).symm
                subst hun
                go_simp
                exact hK.out _ _ ⟨b0, b1, b2, b3, b4, b5, b6, b7, b8, b9, b10, b11, b12, true, b14, b15, b16, b17, b18, false, v58, v59, v60, v61, v62, v63, v64, v65, v66, v67, v68, v69, .pointer (some ⟨g, i * 2, none⟩), .int .i64 (px : Int), v72, v73, v74, v75, v76, rfl, (by simp only [Act.put, List.setIfInBounds_toArray, List.set_cons_zero, List.set_cons_succ]), ⟨_, hB, rfl⟩, h0, h1, h2, h3, h4, h5, h6, h7, h8, h9, h10, h11, Lib.hid (fun _ => rfl), Lib.hid (fun _ => rfl), h14, h15, h16, h17, h18, Lib.hid ⟨(fun _ => rfl), (fun _ => rfl), (fun _ => rfl), (fun _ => rfl), (fun _ => rfl), (fun _ => rfl), (fun _ => rfl), (fun _ => rfl), (fun _ => rfl), (fun _ => rfl), (fun _ => rfl), (fun _ => rfl), (fun _ => rfl), (fun hf => by cases hf), (fun _ => rfl), (fun _ => rfl), (fun _ => rfl), (fun _ => rfl), (fun _ => rfl)⟩⟩
              · -- operation 14
                replace hK := Lib.hid hK
                have hlast : b19 = false := p.out.2.2.2.2.2.2.2.2.2.2.2.2.2.2.1 hun
                subst hlast
                obtain ⟨Wp, hB, hWp⟩ := hB
                have hWq : W = Wp := by simpa using hWp
                clear hWp
                subst hWq
                have qq := HC.out W hB
                obtain ⟨q0, q1⟩ := qq
                obtain ⟨q2, q3⟩ := HLb.out W hB
                have kt := HKt.out
                have kb := HKb.out
                have k1 := HK1.out
                have k2 := HK2.out
                have k3 := HK3.out
                have k4 := HK4.out
                have k5 := HK5.out
                have k6 := HK6.out
                obtain rfl := (h8.out (by simp only [haf])).symm
                obtain rfl := (h13.out (by simp only [haf])).symm
                subst hun
                go_simp
                exact hK.out _ _ ⟨b0, b1, b2, b3, b4, b5, b6, b7, b8, b9, b10, b11, b12, b13, true, b15, b16, b17, b18, false, v58, v59, v60, v61, v62, v63, v64, v65, .int .i64 (Q : Int), v67, v68, v69, v70, .int .i64 (px : Int), .int .i64 ((Q : Int) + (px : Int)), v73, v74, v75, v76, rfl, (by simp only [Act.put, List.setIfInBounds_toArray, List.set_cons_zero, List.set_cons_succ]), ⟨_, hB, rfl⟩, h0, h1, h2, h3, h4, h5, h6, h7, Lib.hid (fun _ => rfl), h9, h10, h11, h12, Lib.hid (fun _ => rfl), Lib.hid (fun _ => rfl), h15, h16, h17, h18, Lib.hid ⟨(fun _ => rfl), (fun _ => rfl), (fun _ => rfl), (fun _ => rfl), (fun _ => rfl), (fun _ => rfl), (fun _ => rfl), (fun _ => rfl), (fun _ => rfl), (fun _ => rfl), (fun _ => rfl), (fun _ => rfl), (fun _ => rfl), (fun _ => rfl), (fun hf => by cases hf), (fun _ => rfl), (fun _ => rfl), (fun _ => rfl), (fun _ => rfl)⟩⟩
              · -- operation 15
                replace hK := Lib.hid hK
                have hlast : b19 = false := p.out.2.2.2.2.2.2.2.2.2.2.2.2.2.2.2.1 hun
                subst hlast
                obtain ⟨Wp, hB, hWp⟩ := hB
                have hWq : W = Wp := by simpa using hWp
                clear hWp
                subst hWq
                have qq := HC.out W hB
                obtain ⟨q0, q1⟩ := qq
                obtain ⟨q2, q3⟩ := HLb.out W hB
                have kt := HKt.out
                have kb := HKb.out
                have k1 := HK1.out
                have k2 := HK2.out
                have k3 := HK3.out
                have k4 := HK4.out
                have k5 := HK5.out
                have k6 := HK6.out
                subst hun
                go_simp
                exact hK.out _ _ ⟨b0, b1, b2, b3, b4, b5, b6, b7, b8, b9, b10, b11, b12, b13, b14, true, b16, b17, b18, false, v58, v59, v60, v61, v62, v63, v64, v65, v66, v67, v68, v69, v70, v71, v72, .int .i64 (k : Int), v74, v75, v76, rfl, (by simp only [Act.put, List.setIfInBounds_toArray, List.set_cons_zero, List.set_cons_succ]), ⟨_, hB, rfl⟩, h0, h1, h2, h3, h4, h5, h6, h7, h8, h9, h10, h11, h12, h13, h14, Lib.hid (fun _ => rfl), h16, h17, h18, Lib.hid ⟨(fun _ => rfl), (fun _ => rfl), (fun _ => rfl), (fun _ => rfl), (fun _ => rfl), (fun _ => rfl), (fun _ => rfl), (fun _ => rfl), (fun _ => rfl), (fun _ => rfl), (fun _ => rfl), (fun _ => rfl), (fun _ => rfl), (fun _ => rfl), (fun _ => rfl), (fun hf => by cases hf), (fun _ => rfl), (fun _ => rfl), (fun _ => rfl)⟩⟩
              · -- operation 16
                replace hK := Lib.hid hK
                have hlast : b19 = false := p.out.2.2.2.2.2.2.2.2.2.2.2.2.2.2.2.2.1 hun
                subst hlast
                obtain ⟨Wp, hB, hWp⟩ := hB
                have hWq : W = Wp := by simpa using hWp
                clear hWp
                subst hWq
                have qq := HC.out W hB
                obtain ⟨q0, q1⟩ := qq
                obtain ⟨q2, q3⟩ := HLb.out W hB
                have kt := HKt.out
                have kb := HKb.out
                have k1 := HK1.out
                have k2 := HK2.out
                have k3 := HK3.out
                have k4 := HK4.out
                have k5 := HK5.out
                have k6 := HK6.out
                obtain rfl := (h15.out (by simp only [haf])).symm
                subst hun
                go_simp
                exact hK.out _ _ ⟨b0, b1, b2, b3, b4, b5, b6, b7, b8, b9, b10, b11, b12, b13, b14, b15, true, b17, b18, false, v58, v59, v60, v61, v62, v63, v64, v65, v66, v67, v68, v69, v70, v71, v72, .int .i64 (k : Int), .int .i64 r, v75, v76, rfl, (by simp only [Act.put, List.setIfInBounds_toArray, List.set_cons_zero, List.set_cons_succ]), ⟨_, hB, rfl⟩, h0, h1, h2, h3, h4, h5, h6, h7, h8, h9, h10, h11, h12, h13, h14, Lib.hid (fun _ => rfl), Lib.hid (fun _ => rfl), h17, h18, Lib.hid ⟨(fun _ => rfl), (fun _ => rfl), (fun _ => rfl), (fun _ => rfl), (fun _ => rfl), (fun _ => rfl), (fun _ => rfl), (fun _ => rfl), (fun _ => rfl), (fun _ => rfl), (fun _ => rfl), (fun _ => rfl), (fun _ => rfl), (fun _ => rfl), (fun _ => rfl), (fun _ => rfl), (fun hf => by cases hf), (fun _ => rfl), (fun _ => rfl)⟩⟩
              · -- operation 17
                replace hK := Lib.hid hK
                have hlast : b19 = false := p.out.2.2.2.2.2.2.2.2.2.2.2.2.2.2.2.2.2.1 hun
                subst hlast
                obtain ⟨Wp, hB, hWp⟩ := hB
                have hWq : W = Wp := by simpa using hWp
                clear hWp
                subst hWq
                have qq := HC.out W hB
                obtain ⟨q0, q1⟩ := qq
                obtain ⟨q2, q3⟩ := HLb.out W hB
                have kt := HKt.out
                have kb := HKb.out
                have k1 := HK1.out
                have k2 := HK2.out
                have k3 := HK3.out
                have k4 := HK4.out
                have k5 := HK5.out
                have k6 := HK6.out
                obtain rfl := (h16.out (by simp only [haf])).symm
                subst hun
                go_simp
                exact hK.out _ _ ⟨b0, b1, b2, b3, b4, b5, b6, b7, b8, b9, b10, b11, b12, b13, b14, b15, b16, true, b18, false, v58, v59, v60, v61, v62, v63, v64, v65, v66, v67, v68, v69, v70, v71, v72, v73, .int .i64 r, .bool pb, v76, rfl, (by simp only [Act.put, List.setIfInBounds_toArray, List.set_cons_zero, List.set_cons_succ]), ⟨_, hB, rfl⟩, h0, h1, h2, h3, h4, h5, h6, h7, h8, h9, h10, h11, h12, h13, h14, h15, Lib.hid (fun _ => rfl), Lib.hid (fun _ => rfl), h18, Lib.hid ⟨(fun _ => rfl), (fun _ => rfl), (fun _ => rfl), (fun _ => rfl), (fun _ => rfl), (fun _ => rfl), (fun _ => rfl), (fun _ => rfl), (fun _ => rfl), (fun _ => rfl), (fun _ => rfl), (fun _ => rfl), (fun _ => rfl), (fun _ => rfl), (fun _ => rfl), (fun _ => rfl), (fun _ => rfl), (fun hf => by cases hf), (fun _ => rfl)⟩⟩
              · -- operation 18
                replace hK := Lib.hid hK
                have hlast : b19 = false := p.out.2.2.2.2.2.2.2.2.2.2.2.2.2.2.2.2.2.2 hun
                subst hlast
                obtain ⟨Wp, hB, hWp⟩ := hB
                have hWq : W = Wp := by simpa using hWp
                clear hWp
                subst hWq
                have qq := HC.out W hB
                obtain ⟨q0, q1⟩ := qq
                obtain ⟨q2, q3⟩ := HLb.out W hB
                have kt := HKt.out
                have kb := HKb.out
                have k1 := HK1.out
                have k2 := HK2.out
                have k3 := HK3.out
                have k4 := HK4.out
                have k5 := HK5.out
                have k6 := HK6.out
                obtain rfl := (h0.out (by simp only [haf])).symm
                obtain rfl := (h14.out (by simp only [haf])).symm
                subst hun
                go_simp
                exact hK.out _ _ ⟨b0, b1, b2, b3, b4, b5, b6, b7, b8, b9, b10, b11, b12, b13, b14, b15, b16, b17, true, false, .slice (some ⟨lb, 0, none⟩) N N, v59, v60, v61, v62, v63, v64, v65, v66, v67, v68, v69, v70, v71, .int .i64 ((Q : Int) + (px : Int)), v73, v74, v75, .pointer (some ⟨lb, Q + px, none⟩), rfl, (by simp only [Act.put, List.setIfInBounds_toArray, List.set_cons_zero, List.set_cons_succ]), ⟨_, hB, rfl⟩, Lib.hid (fun _ => rfl), h1, h2, h3, h4, h5, h6, h7, h8, h9, h10, h11, h12, h13, Lib.hid (fun _ => rfl), h15, h16, h17, Lib.hid (fun _ => rfl), Lib.hid ⟨(fun _ => rfl), (fun _ => rfl), (fun _ => rfl), (fun _ => rfl), (fun _ => rfl), (fun _ => rfl), (fun _ => rfl), (fun _ => rfl), (fun _ => rfl), (fun _ => rfl), (fun _ => rfl), (fun _ => rfl), (fun _ => rfl), (fun _ => rfl), (fun _ => rfl), (fun _ => rfl), (fun _ => rfl), (fun _ => rfl), (fun hf => by cases hf)⟩⟩
              · -- operation 19
                replace hK := Lib.hid hK
                subst hun
                obtain ⟨Wp, hB, hWp⟩ := hB
                have hWq : W = Wp := by simpa using hWp
                clear hWp
                subst hWq
                have qq := HC.out W hB
                obtain ⟨q0, q1⟩ := qq
                obtain ⟨q2, q3⟩ := HLb.out W hB
                have kt := HKt.out
                have kb := HKb.out
                have k1 := HK1.out
                have k2 := HK2.out
                have k3 := HK3.out
                have k4 := HK4.out
                have k5 := HK5.out
                have k6 := HK6.out
                obtain rfl := (h18.out (by simp only [haf])).symm
                obtain rfl := (h17.out (by simp only [haf])).symm
                go_simp
                exact hK.out _ _ ⟨b0, b1, b2, b3, b4, b5, b6, b7, b8, b9, b10, b11, b12, b13, b14, b15, b16, b17, b18, true, v58, v59, v60, v61, v62, v63, v64, v65, v66, v67, v68, v69, v70, v71, v72, v73, v74, .bool pb, .pointer (some ⟨lb, Q + px, none⟩), rfl, (by simp only [Act.put, List.setIfInBounds_toArray, List.set_cons_zero, List.set_cons_succ]), ⟨_, hB, rfl⟩, h0, h1, h2, h3, h4, h5, h6, h7, h8, h9, h10, h11, h12, h13, h14, h15, h16, Lib.hid (fun _ => rfl), Lib.hid (fun _ => rfl), Lib.hid ⟨(fun hf => absurd (show false = true from hf.symm.trans (by simp only [haf])) (by decide)), (fun hf => absurd (show false = true from hf.symm.trans (by simp only [haf])) (by decide)), (fun hf => absurd (show false = true from hf.symm.trans (by simp only [haf])) (by decide)), (fun hf => absurd (show false = true from hf.symm.trans (by simp only [haf])) (by decide)), (fun hf => absurd (show false = true from hf.symm.trans (by simp only [haf])) (by decide)), (fun hf => absurd (show false = true from hf.symm.trans (by simp only [haf])) (by decide)), (fun hf => absurd (show false = true from hf.symm.trans (by simp only [haf])) (by decide)), (fun hf => absurd (show false = true from hf.symm.trans (by simp only [haf])) (by decide)), (fun hf => absurd (show false = true from hf.symm.trans (by simp only [haf])) (by decide)), (fun hf => absurd (show false = true from hf.symm.trans (by simp only [haf])) (by decide)), (fun hf => absurd (show false = true from hf.symm.trans (by simp only [haf])) (by decide)), (fun hf => absurd (show false = true from hf.symm.trans (by simp only [haf])) (by decide)), (fun hf => absurd (show false = true from hf.symm.trans (by simp only [haf])) (by decide)), (fun hf => absurd (show false = true from hf.symm.trans (by simp only [haf])) (by decide)), (fun hf => absurd (show false = true from hf.symm.trans (by simp only [haf])) (by decide)), (fun hf => absurd (show false = true from hf.symm.trans (by simp only [haf])) (by decide)), (fun hf => absurd (show false = true from hf.symm.trans (by simp only [haf])) (by decide)), (fun hf => absurd (show false = true from hf.symm.trans (by simp only [haf])) (by decide)), (fun hf => absurd (show false = true from hf.symm.trans (by simp only [haf])) (by decide))⟩⟩
            intro L A W hI hr
            obtain ⟨b0, b1, b2, b3, b4, b5, b6, b7, b8, b9, b10, b11, b12, b13, b14, b15, b16, b17, b18, b19, v58, v59, v60, v61, v62, v63, v64, v65, v66, v67, v68, v69, v70, v71, v72, v73, v74, v75, v76, rfl, rfl, hB, h0, h1, h2, h3, h4, h5, h6, h7, h8, h9, h10, h11, h12, h13, h14, h15, h16, h17, h18, p⟩ := hI
            have d0 := ready_done hr 0 _ rfl (by simp [Region.binds])
            have d1 := ready_done hr 1 _ rfl (by simp [Region.binds])
            have d2 := ready_done hr 2 _ rfl (by simp [Region.binds])
            have d6 := ready_done hr 6 _ rfl (by simp [Region.binds])
            have d9 := ready_done hr 9 _ rfl (by simp [Region.binds])
            have d10 := ready_done hr 10 _ rfl (by simp [Region.binds])
            have d15 := ready_done hr 15 _ rfl (by simp [Region.binds])
            simp at d0 d1 d2 d6 d9 d10 d15
            subst d0 d1 d2 d6 d9 d10 d15
            have d3 := ready_done hr 3 _ rfl (by simp [Region.binds])
            have d7 := ready_done hr 7 _ rfl (by simp [Region.binds])
            have d11 := ready_done hr 11 _ rfl (by simp [Region.binds])
            have d16 := ready_done hr 16 _ rfl (by simp [Region.binds])
            simp at d3 d7 d11 d16
            subst d3 d7 d11 d16
            have d4 := ready_done hr 4 _ rfl (by simp [Region.binds])
            have d12 := ready_done hr 12 _ rfl (by simp [Region.binds])
            have d17 := ready_done hr 17 _ rfl (by simp [Region.binds])
            simp at d4 d12 d17
            subst d4 d12 d17
            have d5 := ready_done hr 5 _ rfl (by simp [Region.binds])
            have d13 := ready_done hr 13 _ rfl (by simp [Region.binds])
            simp at d5 d13
            subst d5 d13
            have d8 := ready_done hr 8 _ rfl (by simp [Region.binds])
            simp at d8
            subst d8
            have d14 := ready_done hr 14 _ rfl (by simp [Region.binds])
            simp at d14
            subst d14
            have d18 := ready_done hr 18 _ rfl (by simp [Region.binds])
            simp at d18
            subst d18
            have d19 := ready_done hr 19 _ rfl (by simp [Region.binds])
            simp at d19
            subst d19
            obtain rfl := (h0.out rfl).symm
            obtain rfl := (h1.out rfl).symm
            obtain rfl := (h2.out rfl).symm
            obtain rfl := (h3.out rfl).symm
            obtain rfl := (h4.out rfl).symm
            obtain rfl := (h5.out rfl).symm
            obtain rfl := (h6.out rfl).symm
            obtain rfl := (h7.out rfl).symm
            obtain rfl := (h8.out rfl).symm
            obtain rfl := (h9.out rfl).symm
            obtain rfl := (h10.out rfl).symm
            obtain rfl := (h11.out rfl).symm
            obtain rfl := (h12.out rfl).symm
            obtain rfl := (h13.out rfl).symm
            obtain rfl := (h14.out rfl).symm
            obtain rfl := (h15.out rfl).symm
            obtain rfl := (h16.out rfl).symm
            obtain rfl := (h17.out rfl).symm
            obtain rfl := (h18.out rfl).symm
            obtain ⟨Wp, hB, hWp⟩ := hB
            have hWq : W = Wp.setCell ⟨lb, Q + px, none⟩ (.bool pb) := by simpa using hWp
            clear hWp
            subst hWq
            simp only [Act.put, List.setIfInBounds_toArray, List.set_cons_zero, List.set_cons_succ]
            clear hr h0 h1 h2 h3 h4 h5 h6 h7 h8 h9 h10 h11 h12 h13 h14 h15 h16 h17 h18 p
            have o := own_below HOj.out hB
            have hst := (o.stored (Q + px) (.bool pb)).1
            rw [HSet.out] at hst
            have HOn := Lib.hid hst
            have HBn := Lib.hid ((HBj.out.trans (hB.mono HwiL.out)).setCell (p := ⟨lb, Q + px, none⟩) (Nat.le_refl _) (.bool pb))
            clear o hst hB hcell hcl
            go_wp2
            go_roundw
            case rel => exact ⟨j + 1, Hjn.out, by rw [HIj.out]; go_num, HOn, HBn⟩
            case measure =>
              have := HI9.out
              simp [intOf]
              omega
          · obtain rfl : j = qn := by omega
            obtain ⟨i, hi⟩ : ∃ i, a + j = i := ⟨_, rfl⟩
            have hcl : ¬ ((i : Int) < (a : Int) + (j : Int)) := by omega
            rw [← HGk.out] at HOj
            have HAi : Hid (((atK rs (k + 1) : Nat) : Int) = (a : Int) + (j : Int)) := by show _ = _; rw [HAk.out]; push_cast; rfl
            rw [hi]
            clear hi
            go_wp2
            go_roundw
            case rel => exact ⟨k + 1, by omega, by go_num, by rw [HAi.out], HOk1, HOj, HBj⟩
            case measure => simp [intOf]; omega
    · obtain rfl : k = m := by omega
      have HBo := Lib.hid (own_bools HO.out (by rw [listF_len]))
      have HMk := Lib.hid (CMk.out (gK S rs k) lb N)
      have HAl := Lib.hid (fun pb W => CAl.out pb (gK S rs k) W)
      have HVm := Lib.hid (HVa.out (gK S rs k))
      have HOk2 : Hid (ok = decide (rnL (alF c n (gK S rs k)) N = rs)) := by show _ = _; rw [HOk.out, HKk.out, Bool.true_and]
      obtain ⟨P, hP⟩ : ∃ P, mkPic sd2 sd2 (gK S rs k) = P := ⟨_, rfl⟩
      obtain ⟨R, hR⟩ : ∃ R, rnL (alF c n (gK S rs k)) N = R := ⟨_, rfl⟩
      have hRl := (HRn.out (alF c n (gK S rs k))).2
      have HB0 := Lib.hid (HW2.out wr HB.out)
      have HPw := Lib.hid (HP6.out wr HB.out)
      rw [hP] at HMk HAl HVm HV
      rw [hR] at HAl HOk2 hRl
      unfold TookPic at HMk
      have HSm := Lib.hid (fun u W h hu hv => CSm.out u R W h hu hv)
      rw [← HOk2.out] at HSm
      have hRL : R.length ≤ 1048576 := by omega
      clear hP hR HO HB hRl CMk CAl CSm HVa HIn HRn HOk HKk
      go_wp2_with fail
      refine (CSd.out _).mono ?_
      rintro e wr ⟨rfl, rfl⟩
      go_wp2_with fail
      refine (HMk.out _ HBo.out).mono ?_
      rintro e w3 ⟨g3, cap3, rfl, hown3, hb3⟩
      have hb4 := Joins.below_alloc1 w3 (.cells #[.slice (some ⟨g3, 0, none⟩) P.length cap3] 29)
      have hp4 := heap_alloc_last w3 (.cells #[.slice (some ⟨g3, 0, none⟩) P.length cap3] 29)
      have HO3 := Lib.hid (Joins.ownsRow_le (own_below hown3 hb4) HB0.out.size)
      have HP3 : Hid ((w3.alloc (.cells #[.slice (some ⟨g3, 0, none⟩) P.length cap3] 29)).heap[w.heap.size]? = some (.cells #[.slice none 0 0] 29 (0, 0))) := (hb4.block _ (Nat.lt_of_lt_of_le (Array.getElem?_eq_some_iff.1 HPw.out).1 hb3.size)).trans ((hb3.block _ (Array.getElem?_eq_some_iff.1 HPw.out).1).trans HPw.out)
      have HB4 := Lib.hid ((HB0.out.trans (hb3.mono HB0.out.size)).trans (hb4.mono (Nat.le_trans HB0.out.size hb3.size)))
      have hp5 : w.heap.size < w3.heap.size := Nat.lt_of_lt_of_le (Array.getElem?_eq_some_iff.1 HPw.out).1 hb3.size
      have HPA : Hid (∀ W, Below (w3.alloc (.cells #[.slice (some ⟨g3, 0, none⟩) P.length cap3] 29)).heap.size (w3.alloc (.cells #[.slice (some ⟨g3, 0, none⟩) P.length cap3] 29)) W → PicAt W w3.heap.size 0 P) := fun W hb => ⟨HVm.out, _, cell_kept hb (cell_of_one hp4), (OwnP.sl (own_below hown3 hb4)).below hb⟩
      have HWx := Lib.hid HB4.out
      obtain ⟨W4, hW4⟩ : ∃ W4, w3.alloc (.cells #[.slice (some ⟨g3, 0, none⟩) P.length cap3] 29) = W4 := ⟨_, rfl⟩
      rw [hW4] at HO3 HP3 HB4 HPA hp4
      have HW4 := Lib.hid hW4
      have HP4 := Lib.hid hp4
      have Hp5 := Lib.hid hp5
      clear hb4 hp4 hown3 hb3 hW4 HWx hp5
      go_upto_region 17 with fail
      rw [HW4.out]
      go_wp2_with fail
      refine (HAl.out _ _ (HPA.out _ (Below.refl _ _))).mono ?_
      rintro e w5 ⟨u, rfl, hown5, hb5⟩
      have hb45 := HB4.out.trans (hb5.mono HB4.out.size)
      go_wp2_with fail
      refine (HSm.out _ _ hRL (OwnN.sl hown5) (HSl.out _ hb45)).mono ?_
      rintro e w6 ⟨rfl, hb6⟩
      have hb46 : Below W4.heap.size W4 w6 := hb5.trans (hb6.mono hb5.size)
      have HB6 := Lib.hid (HB4.out.trans (hb46.mono HB4.out.size))
      have hp6 : w6.heap[w.heap.size]? = some (.cells #[.slice none 0 0] 29 (0, 0)) := (hb46.block _ (Array.getElem?_eq_some_iff.1 HP3.out).1).trans HP3.out
      have hq6 : w6.heap[w3.heap.size]? = some (.cells #[.slice (some ⟨g3, 0, none⟩) P.length cap3] 29 (0, 0)) := (hb46.block _ (Array.getElem?_eq_some_iff.1 HP4.out).1).trans HP4.out
      have hfr : w6.frozen? ⟨w.heap.size, 0, none⟩ = false := free_of_one hp6
      have hc2 : w6.cell? ⟨w.heap.size, 0, none⟩ = some (.slice none 0 0) := cell_of_one hp6
      have hc3 : w6.cell? ⟨w3.heap.size, 0, none⟩ = some (.slice (some ⟨g3, 0, none⟩) P.length cap3) := cell_of_one hq6
      have P6 := Lib.hid hp6
      have HO6 := Lib.hid (own_set (u := .slice (some ⟨g3, 0, none⟩) P.length cap3) (own_below HO3.out hb46) hp6 (by decide))
      clear hown5 hb5 hb6 hb46 hb45 hp6 hq6
      cases ok with
      | false =>
        have hVf : V = [] := by rw [HV.out]; rfl
        subst hVf
        go_wp2_with fail
        refine bodyPost_ret (v := .tuple #[.agg #[.slice none 0 0], .bool false]) (by simp [results, Tryd.results15, go_sem, cell_of_one (one_setCell P6.out)]) rfl ⟨_, _, _, rfl, World.ownsRow_nil _ _ _ _, HB6.out.setCell (by simp) _⟩
      | true =>
        have hVt : V = P := by rw [HV.out]; rfl
        subst hVt
        go_wp2_with fail
        refine bodyPost_ret (v := .tuple #[.agg #[.slice (some ⟨g3, 0, none⟩) V.length cap3], .bool true]) (by simp [results, Tryd.results15, go_sem, cell_of_one (one_setCell P6.out)]) rfl ⟨_, _, _, rfl, HO6.out, HB6.out.setCell (by simp) _⟩
end Go.Proofs.YthblhibkbcmbaaaDoor
