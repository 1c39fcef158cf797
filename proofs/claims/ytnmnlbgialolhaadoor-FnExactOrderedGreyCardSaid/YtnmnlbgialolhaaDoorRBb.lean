/- Contracts of single functions, and plain lemmas, on which the exact laws of this seat rest; each holds under the conditions that it states. -/
import Derived.Test.YtnmnlbgialolhaaDoorS0
import Derived.Test.YtnmnlbgialolhaaDoorRJ
import Derived.Test.YtnmnlbgialolhaaDoorGP
import Derived.Test.YtnmnlbgialolhaaDoorS5
namespace Go.Proofs.YtnmnlbgialolhaaDoor
set_option linter.unusedVariables false
set_option linter.unusedSimpArgs false
open Go.RowKit Go.Shelf

/-! ### a range over a method value: the receiver is bound ahead of yield; no round is left by a jump -/
/-- all cells but those of one variable stay -/
def Keep1 (lb : Nat) (A B : World) : Prop := A.heap.size ≤ B.heap.size ∧ ∀ k o, k ≠ lb → o.isCells = true → A.heap[k]? = some o → B.heap[k]? = some o
theorem Keep1.trans {lb : Nat} {A B C : World} (h : Keep1 lb A B) (k : Keep1 lb B C) : Keep1 lb A C := ⟨Nat.le_trans h.1 k.1, fun i x hi ht hx => k.2 i x hi ht (h.2 i x hi ht hx)⟩
theorem Keep1.put {lb : Nat} (W : World) {l : Nat} {o : Obj} (o' : Obj) (h : W.heap[l]? = some o) (ho : o.isCells = false) : Keep1 lb W (W.putObj l o') :=
  ⟨by simp, fun k c _ hc hk => (World.putObj_heap_other (fun e => by subst e; rw [h] at hk; cases hk; rw [ho] at hc; cases hc)).trans hk⟩
theorem Keep1.below {lb : Nat} {A B : World} (h : Below A.heap.size A B) : Keep1 lb A B := ⟨h.size, fun k c _ _ hk => (h.block k (Array.getElem?_eq_some_iff.1 hk).1).trans hk⟩
theorem Keep1.set {lb : Nat} (A : World) (v : Value) : Keep1 lb A (A.setCell ⟨lb, 0, none⟩ v) := ⟨by simp [World.setCell], fun k c hk _ h => (Below.heap_setCell _ _ _ _ hk).trans h⟩

theorem rangeBound {α : Type} {P : Program} {g : Operand} {ps : Array Tmp} {assign body : Code} {Q : Exit → Act → World → Prop} {a : Act} {w : World} {n : Nat} (h1 : 1 ≤ n)
    {gf : Nat} {fs : Array Value} (hg : a.eval g = .func (.func gf) fs #[]) (eg : ∀ args w, (callFunc gf args).run P w = .ok (.enter gf args) w)
    {encs : α → Array Value} (hps : ∀ x, (encs x).size = ps.size) {lb N : Nat} {T : List α → Prop} (I : List α → World → Prop)
    (hIb : ∀ pre A B, I pre A → Below A.heap.size A B → I pre B)
    (hIo : ∀ pre A l o o', I pre A → w.heap.size ≤ l → A.heap[l]? = some o → o.isCells = false → I pre (A.putObj l o'))
    (hseq : ∀ (l : Nat) (J : List α → World → Prop) (W : World), (∀ pre A B, J pre A → Below A.heap.size A B → J pre B) → (∀ pre A, J pre A → I pre A) →
      (∀ pre x A, J pre A → pre.length < N → YieldAt Fence.wide (n - 1 - 1) P l (encs x) A fun e B => e = .returned (.bool true) ∧ J (pre ++ [x]) B ∧ Keep1 lb A B) →
      J [] W → w.heap.size ≤ W.heap.size → CallsIn Fence.wide (n - 1) P gf (fs ++ #[.func (.yield l) #[] #[]]) W fun e B => (∃ v, e = .returned v) ∧ ∃ xs, T xs ∧ J xs B)
    (h0 : I [] w)
    (hassign : ∀ l x W (K : Act → World → Prop), K { tmps := (ps.zip (encs x)).foldl (fun t (p, v) => t.setIfInBounds p v) a.tmps, defers := [] } W →
      assign.wpIn (Fence.wide.inRound l) (n - 1 - 1) P (Exit.then K (fun _ _ _ => False)) { tmps := (ps.zip (encs x)).foldl (fun t (p, v) => t.setIfInBounds p v) a.tmps, defers := [] } W)
    (hbody : ∀ l pre x W, pre.length < N → I pre W → body.wpIn (Fence.wide.inRound l) (n - 1 - 1) P (fun e _ W' => e = .normal ∧ KeepsFrom w.heap.size W W' ∧ Keep1 lb W W' ∧ I (pre ++ [x]) W')
      { tmps := (ps.zip (encs x)).foldl (fun t (p, v) => t.setIfInBounds p v) a.tmps, defers := [] } W)
    (hdone : ∀ D xs W, w.heap.size ≤ D → T xs → I xs W → W.heap[D]? = some (.deferred (some [])) → Q .normal { a with defers := { target := .collected D, args := #[] } :: a.defers } W) :
    (Code.rangeFunc g ps assign body).wpIn Fence.wide n P Q a w := by
  refine wpIn_rangeFunc fun fn hfn => ?_
  obtain ⟨rec, hrec⟩ : ∃ rec : LoopState → Loop, rec = fun st => { state := st, pending := none, fn, tmps := a.tmps, params := ps, assign, body, defers := w.heap.size } := ⟨_, rfl⟩
  have hK1 : ((w.alloc (.deferred (some []))).alloc (.loop (rec .ready))).heap[w.heap.size]? = some (.deferred (some [])) := (Below.heap_alloc _ _ _ (by simp)).trans (World.alloc_heap_new w _)
  have hL1 : ((w.alloc (.deferred (some []))).alloc (.loop (rec .ready))).heap[w.heap.size + 1]? = some (.loop (rec .ready)) := by
    have := World.alloc_heap_new (w.alloc (.deferred (some []))) (.loop (rec .ready))
    rwa [World.size_alloc] at this
  have hI1 : I [] ((w.alloc (.deferred (some []))).alloc (.loop (rec .ready))) := hIb _ _ _ h0 (Joins.below_alloc2 w _ _)
  have hsz : w.heap.size ≤ ((w.alloc (.deferred (some []))).alloc (.loop (rec .ready))).heap.size := by simp; omega
  obtain ⟨W1, hW1⟩ : ∃ W1, ((w.alloc (.deferred (some []))).alloc (.loop (rec .ready))) = W1 := ⟨_, rfl⟩
  rw [hW1] at hK1 hL1 hI1 hsz
  refine ⟨w.heap.size + 1, [{ target := .collected w.heap.size, args := #[] }], W1, { target := .fn (.func gf) #[], args := fs ++ #[.func (.yield (w.heap.size + 1)) #[] #[]] }, W1, gf, fs ++ #[.func (.yield (w.heap.size + 1)) #[] #[]], W1, ?_, ?_, ?_, ?_, fun _ => h1, ?_⟩
  · rw [← hW1, hrec]; exact run_enterLoop_outer _ _ _ _ _
  · simp only [resolve, hg]
    simp [go_sem]
  · intro f' hf'; trivial
  · simp [invoke, go_sem, eg]
  · refine (hseq (w.heap.size + 1) (fun pre W => I pre W ∧ W.heap[w.heap.size + 1]? = some (.loop (rec .ready)) ∧ W.heap[w.heap.size]? = some (.deferred (some []))) W1
      (fun pre A B h hb => ⟨hIb _ _ _ h.1 hb, (hb.block _ (Array.getElem?_eq_some_iff.1 h.2.1).1).trans h.2.1, (hb.block _ (Array.getElem?_eq_some_iff.1 h.2.2).1).trans h.2.2⟩)
      (fun pre A h => h.1) ?_ ⟨hI1, hL1, hK1⟩ hsz).mono ?_
    · rintro pre x A ⟨hi, hl, hk⟩ hlN
      have hy := run_yield (P := P) (args := encs x) hl (by rw [hrec]; exact hps x)
      rw [hrec] at hy
      refine ⟨fn, _, assign, body, hy, roundIn_of_wpIn hfn (hassign _ x A _ ?_)⟩
      clear hy
      have hlt := (Array.getElem?_eq_some_iff.1 hl).1
      refine ⟨_, run_beginRound hl (by rw [hrec]), ?_⟩
      have hl2 : (A.putObj (w.heap.size + 1) (.loop { rec .ready with state := .busy })).heap[w.heap.size + 1]? = some (.loop { rec .ready with state := .busy }) := World.putObj_heap_same hlt
      have hk2 : (A.putObj (w.heap.size + 1) (.loop { rec .ready with state := .busy })).heap[w.heap.size]? = some (.deferred (some [])) := (World.putObj_heap_other (by omega)).trans hk
      refine wpIn_mono (hbody _ pre x _ hlN (hIo _ _ _ _ _ hi (by omega) hl rfl)) ?_
      rintro e a3 W3 ⟨rfl, hk3, hq3, hi3⟩
      have hl3 := hk3.same _ _ (by omega) hl2 rfl
      have hk4 := hk3.same _ _ (Nat.le_refl _) hk2 rfl
      have hr := run_endRound (P := P) none hl3
      refine ⟨_, _, hr, rfl, ⟨hIo _ _ _ _ _ hi3 (by omega) hl3 rfl, ?_, (World.putObj_heap_other (by omega)).trans hk4⟩, ((Keep1.put A _ hl rfl).trans hq3).trans (Keep1.put W3 _ hl3 rfl)⟩
      rw [World.putObj_heap_same (Array.getElem?_eq_some_iff.1 hl3).1, hrec]
      rfl
    · rintro e W2 ⟨⟨v, rfl⟩, xs, hT, hi, hl, hk⟩
      have hr := run_endLoop (P := P) hl (by rw [hrec]; simp)
      refine ⟨none, _, by rw [hrec] at hr; exact hr, ?_⟩
      exact hdone _ xs _ (Nat.le_refl _) hT (hIo _ _ _ _ _ hi (by omega) hl rfl) ((World.putObj_heap_other (by omega)).trans hk)
end Go.Proofs.YtnmnlbgialolhaaDoor

/- Contracts of single functions, and plain lemmas, on which the exact laws of this seat rest; each holds under the conditions that it states. -/
namespace Go.Proofs.YtnmnlbgialolhaaDoor
set_option linter.unusedVariables false
set_option linter.unusedSimpArgs false
open Go.RowKit Go.Shelf

/-! ### an iterator within an iterator: what the outer one's rounds promise the inner one -/
theorem yieldAny {m : Nat} (m' l' : Nat) {P : Program} {l : Nat} {args : Array Value} {W : World} {R : Ending → World → Prop} (h : YieldAt Fence.wide m P l args W R) :
    ∃ fn tmps assign body, (Instr.yield l args).run P W = .ok (.round l fn tmps assign body) W ∧ RoundIn (Fence.wide.inRound l') m' P l fn tmps assign body W R := by
  obtain ⟨fn, tmps, assign, body, hy, hR⟩ := h
  exact ⟨fn, tmps, assign, body, hy, hR.1, fun c cs _ => hR.2 c cs (fun d hd => by cases hd)⟩
theorem ownFrom_below1 {β : Type} {B : Nat} {I : β → World → Prop} (h : OwnFrom B I) {s : β} {A C : World} (hs : I s A) (hb : Below A.heap.size A C) : I s C :=
  h s A C none hs ⟨hb.os, hb.tape, hb.output, hb.size, fun k hk _ => hb.block k hk⟩ (fun r e => by cases e)
theorem keep1_cell {lb : Nat} {A B : World} (h : Keep1 lb A B) {k o : Nat} {v : Value} (hk : k ≠ lb) (hc : A.cell? ⟨k, o, none⟩ = some v) : B.cell? ⟨k, o, none⟩ = some v := by
  unfold World.cell? at hc ⊢
  cases ho : A.heap[k]? with
  | none => simp [ho] at hc
  | some x =>
    have hx : x.isCells = true := by cases x <;> simp_all [Obj.isCells]
    rw [h.2 k x hk hx ho]
    simpa [ho] using hc

/-- an iterator: what it asks of the rounds, and what it gives -/
def SeqB {α : Type} (n : Nat) (P : Program) (gf : Nat) (fs lb : Array Value) (encs : α → Array Value) (Kp : World → World → Prop) (T : List α → Prop) (N : Nat) (w : World) : Prop :=
  ∀ (l : Nat) (J : List α → World → Prop) (W : World), Below w.heap.size w W → OwnFrom W.heap.size J →
    (∀ pre x W1, J pre W1 → pre.length < N → YieldAt Fence.wide (n - 1) P l (encs x) W1 fun e W' => e = .returned (.bool true) ∧ J (pre ++ [x]) W' ∧ Kp W1 W' ∧ KeepsFrom W.heap.size W1 W') →
    J [] W → CallsIn Fence.wide n P gf (fs ++ #[.func (.yield l) #[] #[]] ++ lb) W fun e W' => (∃ v, e = .returned v) ∧ ∃ xs, T xs ∧ J xs W'

theorem rangeSeq {α : Type} {n : Nat} {P : Program} {g : Operand} {ps : Array Tmp} {assign body : Code} {Q : Exit → Act → World → Prop} {a : Act} {w : World}
    (h1 : 1 ≤ n) {gf : Nat} {fs lb : Array Value} (hg : a.eval g = .func (.func gf) fs lb) (eg : ∀ args w, (callFunc gf args).run P w = .ok (.enter gf args) w)
    {encs : α → Array Value} {Kp : World → World → Prop} {T : List α → Prop} {N : Nat} {w0 : World} (hseq : SeqB (n - 1) P gf fs lb encs Kp T N w0)
    (hKt : ∀ {A B C : World}, Kp A B → Kp B C → Kp A C) (hKb : ∀ (W : World) (l : Nat) (o o' : Obj), w.heap.size ≤ l → W.heap[l]? = some o → o.isCells = false → o.isWalk = false → Kp W (W.putObj l o')) (hb0 : Below w0.heap.size w0 w) (hps : ∀ x, (encs x).size = ps.size)
    (I : List α → World → Prop) (hI : OwnFrom w.heap.size I) (h0 : I [] w) (Ax : α → Act → World → Prop) (hAx : ∀ x a', OwnFrom w.heap.size (fun (_ : Unit) W => Ax x a' W))
    (hassign : ∀ (l : Nat) (pre : List α) (x : α) (W : World) (K : Act → World → Prop), I pre W → (∀ a' W', KeepsFrom w.heap.size W W' → Kp W W' → I pre W' → Ax x a' W' → K a' W') →
      assign.wpIn (Fence.wide.inRound l) (n - 1 - 1) P (Exit.then K (fun _ _ _ => False)) { tmps := (ps.zip (encs x)).foldl (fun t (p, v) => t.setIfInBounds p v) a.tmps, defers := [] } W)
    (hbody : ∀ (l : Nat) (pre : List α) (x : α) (a' : Act) (W : World), w.heap.size ≤ l → (∃ r, W.heap[l]? = some (.loop r)) → I pre W → Ax x a' W → pre.length < N → body.wpIn (Fence.wide.inRound l) (n - 1 - 1) P (fun e _ W' => e = .normal ∧ KeepsFrom w.heap.size W W' ∧ Kp W W' ∧ I (pre ++ [x]) W') a' W)
    (hdone : ∀ (D : Nat) (xs : List α) (W : World), w.heap.size ≤ D → T xs → I xs W → W.heap[D]? = some (.deferred (some [])) → Q .normal { a with defers := { target := .collected D, args := #[] } :: a.defers } W) :
    (Code.rangeFunc g ps assign body).wpIn Fence.wide n P Q a w := by
  refine wpIn_rangeFunc fun fn hfn => ?_
  obtain ⟨rec, hrec⟩ : ∃ rec : LoopState → Loop, rec = fun st => { state := st, pending := none, fn, tmps := a.tmps, params := ps, assign, body, defers := w.heap.size } := ⟨_, rfl⟩
  obtain ⟨W1, hW1⟩ : ∃ W1, (w.alloc (.deferred (some []))).alloc (.loop (rec .ready)) = W1 := ⟨_, rfl⟩
  have hK1 : W1.heap[w.heap.size]? = some (.deferred (some [])) := by
    rw [← hW1]; exact (Below.heap_alloc _ _ _ (by simp)).trans (World.alloc_heap_new w _)
  have hL1 : W1.heap[w.heap.size + 1]? = some (.loop (rec .ready)) := by
    rw [← hW1]
    have := World.alloc_heap_new (w.alloc (.deferred (some []))) (.loop (rec .ready))
    rwa [World.size_alloc] at this
  have hI1 : I [] W1 := by rw [← hW1]; exact hI.alloc _ (hI.alloc _ h0)
  have hsz : W1.heap.size = w.heap.size + 2 := by rw [← hW1]; simp
  have hb1 : Below w0.heap.size w0 W1 := by
    rw [← hW1]; exact hb0.trans ((((Below.refl _ w).alloc (Nat.le_refl _) _).alloc (by simp) _).mono hb0.size)
  refine ⟨w.heap.size + 1, [{ target := .collected w.heap.size, args := #[] }], W1, { target := .fn (.func gf) lb, args := fs ++ #[.func (.yield (w.heap.size + 1)) #[] #[]] }, W1, gf, fs ++ #[.func (.yield (w.heap.size + 1)) #[] #[]] ++ lb, W1, ?_, ?_, ?_, ?_, fun _ => h1, ?_⟩
  · rw [← hW1, hrec]; exact run_enterLoop_outer _ _ _ _ _
  · simp only [resolve, hg]
    simp [go_sem]
  · intro f' hf'; trivial
  · simp [invoke, go_sem, eg]
  · have hnc : ∀ {A : World} {row : Option Nat}, (∀ r, row = some r → W1.heap.size ≤ r ∧ ∃ o : Obj, A.heap[r]? = some o ∧ o.isCells = false) → (∀ r, row = some r → w.heap.size ≤ r ∧ ∃ o : Obj, A.heap[r]? = some o ∧ o.isCells = false) :=
      fun hr r e => by obtain ⟨hB, o, ho, hw⟩ := hr r e; exact ⟨by omega, o, ho, hw⟩
    refine (hseq (w.heap.size + 1) (fun pre W => I pre W ∧ W.heap[w.heap.size + 1]? = some (.loop (rec .ready)) ∧ W.heap[w.heap.size]? = some (.deferred (some []))) W1 hb1
      (fun s A B row hs hg' hr => ⟨hI s A B row hs.1 hg' (hnc (A := A) hr),
        (hg'.block _ (Array.getElem?_eq_some_iff.1 hs.2.1).1 (fun e => by have := (hr _ e.symm).1; omega)).trans hs.2.1,
        (hg'.block _ (Array.getElem?_eq_some_iff.1 hs.2.2).1 (fun e => by have := (hr _ e.symm).1; omega)).trans hs.2.2⟩) ?_ ⟨hI1, hL1, hK1⟩).mono ?_
    · rintro pre x W ⟨hi, hl, hk⟩ hlen
      have hlt : w.heap.size + 1 < W.heap.size := (Array.getElem?_eq_some_iff.1 hl).1
      have hy := run_yield (P := P) (args := encs x) hl (by rw [hrec]; exact hps x)
      rw [hrec] at hy
      refine ⟨fn, _, assign, body, hy, roundIn_of_wpIn hfn (hassign _ pre x W _ hi ?_)⟩
      clear hy
      intro a' Wa hkfa hkpa hia hax
      replace hl := hkfa.same _ _ (by omega) hl rfl
      replace hk := hkfa.same _ _ (Nat.le_refl _) hk rfl
      replace hlt : w.heap.size + 1 < Wa.heap.size := (Array.getElem?_eq_some_iff.1 hl).1
      replace hi := hia
      clear hia
      refine ⟨_, run_beginRound hl (by rw [hrec]), ?_⟩
      have hl2 : (Wa.putObj (w.heap.size + 1) (.loop { rec .ready with state := .busy })).heap[w.heap.size + 1]? = some (.loop { rec .ready with state := .busy }) := World.putObj_heap_same hlt
      have hk2 : (Wa.putObj (w.heap.size + 1) (.loop { rec .ready with state := .busy })).heap[w.heap.size]? = some (.deferred (some [])) := (World.putObj_heap_other (by omega)).trans hk
      have hw2 : Kp Wa (Wa.putObj (w.heap.size + 1) (.loop { rec .ready with state := .busy })) := hKb _ _ _ _ (by omega) hl rfl rfl
      refine wpIn_mono (hbody _ pre x a' _ (by omega) ⟨_, hl2⟩ (hI.putObj _ hi (by omega) hl rfl) ((hAx x a').putObj (s := ()) _ hax (by omega) hl rfl) hlen) ?_
      rintro e a3 W3 ⟨rfl, hk3, hkp3, hi3⟩
      have hl3 := hk3.same _ _ (by omega) hl2 rfl
      have hk4 := hk3.same _ _ (Nat.le_refl _) hk2 rfl
      have hr := run_endRound (P := P) none hl3
      refine ⟨_, _, hr, rfl, ⟨hI.putObj _ hi3 (by omega) hl3 rfl, ?_, (World.putObj_heap_other (by omega)).trans hk4⟩, hKt hkpa (hKt (hKt hw2 hkp3) (hKb _ _ _ _ (by omega) hl3 rfl rfl)), ⟨Nat.le_trans hkfa.size (Nat.le_trans (by simp) (Nat.le_trans hk3.size (by simp))), fun k o h1 h2 h3 => ?_⟩⟩
      rotate_left
      · have g1 := hkfa.same k o (by omega) h2 h3
        have g2 : (Wa.putObj (w.heap.size + 1) (.loop { rec .ready with state := .busy })).heap[k]? = some o := (World.putObj_heap_other (by omega)).trans g1
        have g3 := hk3.same k o (by omega) g2 h3
        exact (World.putObj_heap_other (by omega)).trans g3
      rw [World.putObj_heap_same (Array.getElem?_eq_some_iff.1 hl3).1, hrec]
      rfl
    · rintro e W2 ⟨⟨v, rfl⟩, xs, hT, hi, hl, hk⟩
      have hr := run_endLoop (P := P) hl (by rw [hrec]; simp)
      refine ⟨none, _, by rw [hrec] at hr; exact hr, ?_⟩
      exact hdone _ xs _ (Nat.le_refl _) hT (hI.putObj _ hi (by omega) hl rfl) ((World.putObj_heap_other (by omega)).trans hk)
theorem keep1_t {lb : Nat} {A B C : World} (h : Keep1 lb A B) (k : Keep1 lb B C) : Keep1 lb A C := h.trans k
theorem keep1_b {lb : Nat} {w : World} (W : World) (l : Nat) (o o' : Obj) (_ : w.heap.size ≤ l) (h : W.heap[l]? = some o) (ho : o.isCells = false) (_ : o.isWalk = false) : Keep1 lb W (W.putObj l o') := Keep1.put W o' h ho
end Go.Proofs.YtnmnlbgialolhaaDoor

/- Contracts of single functions, and plain lemmas, on which the exact laws of this seat rest; each holds under the conditions that it states. -/
namespace Go.Proofs.YtnmnlbgialolhaaDoor
set_option linter.unusedVariables false
set_option linter.unusedSimpArgs false
open Go.RowKit Go.Shelf
attribute [local go_sem] Oper.semAt_some

/-! ### rows of numbers in memory, apart from one variable -/
structure GAt (W : World) (b off n a : Nat) (bb oo cc : Nat → Nat) (F : Nat → Nat → Int) (lb : Nat) : Prop where
  hb : b ≠ lb
  hbb : ∀ y, y < n → bb y ≠ lb
  row : ∀ y, y < n → W.cell? ⟨b, off + y, none⟩ = some (.slice (some ⟨bb y, oo y, none⟩) a (cc y))
  num : ∀ y, y < n → ∀ x, x < a → W.cell? ⟨bb y, oo y + x, none⟩ = some (.int .i64 (F y x))
theorem cell_grown {A B : World} {row : Option Nat} (hg : A.grownBy B row) (hr : ∀ r, row = some r → ∃ o : Obj, A.heap[r]? = some o ∧ o.isCells = false) {k o : Nat} {v : Value} (hc : A.cell? ⟨k, o, none⟩ = some v) : B.cell? ⟨k, o, none⟩ = some v := by
  unfold World.cell? at hc ⊢
  cases ho : A.heap[k]? with
  | none => simp [ho] at hc
  | some x =>
    have hx : x.isCells = true := by cases x <;> simp_all [Obj.isCells]
    have h1 := hg.block k (Array.getElem?_eq_some_iff.1 ho).1 (fun e => by
      obtain ⟨o2, h2, h3⟩ := hr k e.symm
      rw [ho] at h2
      cases h2
      rw [hx] at h3
      cases h3)
    rw [h1, ho]
    simpa [ho] using hc
section
variable {A B : World} {b off n a : Nat} {bb oo cc : Nat → Nat} {F : Nat → Nat → Int} {lb : Nat}
theorem GAt.keep (h : GAt A b off n a bb oo cc F lb) (hk : Keep1 lb A B) : GAt B b off n a bb oo cc F lb :=
  ⟨h.hb, h.hbb, fun y hy => keep1_cell hk h.hb (h.row y hy), fun y hy x hx => keep1_cell hk (h.hbb y hy) (h.num y hy x hx)⟩
theorem GAt.below (h : GAt A b off n a bb oo cc F lb) (hb : Below A.heap.size A B) : GAt B b off n a bb oo cc F lb := h.keep (Keep1.below hb)
theorem GAt.from {α : Type} (B0 : Nat) : OwnFrom B0 (fun (_ : List α) W => GAt W b off n a bb oo cc F lb) := fun _ X Y row h hg hr =>
  ⟨h.hb, h.hbb, fun y hy => cell_grown hg (fun r e => (hr r e).2) (h.row y hy), fun y hy x hx => cell_grown hg (fun r e => (hr r e).2) (h.num y hy x hx)⟩
end
theorem keep1_blk {lb : Nat} {A B : World} (h : Keep1 lb A B) {k : Nat} {c : Array Value} {t : TypeId} (hk : k ≠ lb) (hc : Blk A k c t) : Blk B k c t := h.2 k _ hk rfl hc
def encG {a n : Nat} (F : Nat → Nat → Int) (x : { q : Int × Int // InG a n q }) : Array Value := #[.agg #[.int .i64 x.1.1, .int .i64 x.1.2], .int .i64 (F x.1.2.toNat x.1.1.toNat)]

set_option maxRecDepth 100000 in
set_option maxHeartbeats 4000000 in
theorem items_seq (b off n a cap : Nat) (bb oo cc : Nat → Nat) (F : Nat → Nat → Int) (lb : Nat) (w : World) (ha1 : 0 < a) (ha : a ≤ 16) (hn1 : 0 < n) (hn : n ≤ 16) (hlb : lb < w.heap.size) (hG : GAt w b off n a bb oo cc F lb)
    (CSz : ∀ W, Below w.heap.size w W → Calls Tryd.prog 69 #[.slice (some ⟨b, off, none⟩) n cap] W (fun e w' => e = .returned (.agg (mcells a n (fun _ => 0))) ∧ Below W.heap.size W w')) :
    SeqB 6 Tryd.prog 74 #[.slice (some ⟨b, off, none⟩) n cap] #[] (encG (a := a) (n := n) F) (Keep1 lb) (fun xs => xs = (gGrid a n ha1 hn1).list (n * a)) (n * a) w := by
  intro l J We hWe hJ hY h0
  have hGe : GAt We b off n a bb oo cc F lb := hG.below hWe
  have hlbe : lb < We.heap.size := Nat.lt_of_lt_of_le hlb hWe.size
  show CallsIn Fence.wide 6 Tryd.prog _ #[.slice (some ⟨b, off, none⟩) n cap, .func (.yield l) #[] #[]] We _
  have CS : Hid (∀ W, Below We.heap.size We W → Calls Tryd.prog 69 #[.slice (some ⟨b, off, none⟩) n cap] W (fun e w' => e = .returned (.agg (mcells a n (fun _ => 0))) ∧ Below W.heap.size W w')) := fun W hb => CSz W (hWe.trans (hb.mono hWe.size))
  obtain ⟨M, hM⟩ : ∃ M, mcells (a : Int) (n : Int) (fun _ => 0) = M := ⟨_, rfl⟩
  have hsz : M.size = 18 := by rw [← hM]; rfl
  rw [hM] at CS
  have hM2 : ∀ (W : World) (g : Nat), W.heap[g]? = some (.cells M 63 (0, 0)) → W.cell? ⟨g, 0, none⟩ = some (.int .i64 a) ∧ W.cell? ⟨g, 1, none⟩ = some (.int .i64 n) := fun W g h => by
    rw [← hM] at h
    exact ⟨by rw [Joins.cell_of_block h 0]; rfl, by rw [Joins.cell_of_block h 1]; rfl⟩
  have HM2 := Lib.hid hM2
  have HG := Lib.hid hGe
  have HJ := Lib.hid hJ
  have HY := Lib.hid hY
  have hbA := Joins.below_alloc2 We (.cells #[.slice (some ⟨b, off, none⟩) n cap] 70) (.cells #[.func (.yield l) #[] #[]] 131)
  have q0 : Blk ((We.alloc (.cells #[.slice (some ⟨b, off, none⟩) n cap] 70)).alloc (.cells #[.func (.yield l) #[] #[]] 131)) We.heap.size #[.slice (some ⟨b, off, none⟩) n cap] 70 := by
    show _ = _
    rw [Below.heap_alloc _ _ _ (by first | (simp; done) | (simp; omega))]; exact heap_alloc_last We _
  have q1 : Blk ((We.alloc (.cells #[.slice (some ⟨b, off, none⟩) n cap] 70)).alloc (.cells #[.func (.yield l) #[] #[]] 131)) (We.heap.size + 1) #[.func (.yield l) #[] #[]] 131 := heap_alloc2_new _ _ _
  have HBA := Lib.hid hbA
  clear hM hM2 hG CSz hJ hY hGe
  refine callsIn_of_wp_marks Tryd.func74 rfl trivial ?_ rfl
  simp only [Tryd.ntmps74, List.size_toArray, List.length_cons, List.length_nil, Nat.reduceAdd, Nat.reduceSub, Array.replicate_succ, Array.replicate_zero, List.push_toArray, List.append_toArray, List.nil_append, List.cons_append]
  have c0 := cell_of_one q0
  gi_wp2_with (refine ⟨trivial, ?_⟩; gi_at_call 69; refine (callsIn_wide.2 (CS.out _ HBA.out)).mono ?_; rintro e w1 ⟨rfl, hb1⟩; refine Hid.out ?_)
  refine Lib.hid ?_
  clear c0
  gi_wp2_with (refine ⟨trivial, ?_⟩; gi_at_call 89; refine (callsIn_wide.2 (spots_any M 0 _ hsz)).mono ?_; rintro e w3 ⟨rfl, rfl⟩; refine Hid.out ?_)
  refine Lib.hid ?_
  gi_wp2
  have r0 := q0.below hb1
  have r1 := q1.below hb1
  obtain ⟨W0, hW0⟩ : ∃ W0, (w1.alloc (.cells M 63)).alloc (.cells #[.int .i64 0] 2) = W0 := ⟨_, rfl⟩
  have hs0 : W0.heap.size = w1.heap.size + 1 + 1 := by rw [← hW0]; simp
  have hs1 : We.heap.size + 1 < w1.heap.size := by have := hb1.size; simp at this; omega
  have c6 : Blk W0 w1.heap.size M 63 := by rw [← hW0]; exact Blk.alloc (heap_alloc_last w1 _) _
  have c7 : Blk W0 (w1.heap.size + 1) #[.int .i64 0] 2 := by rw [← hW0]; exact heap_alloc2_new _ _ _
  have c0 : Blk W0 We.heap.size #[.slice (some ⟨b, off, none⟩) n cap] 70 := by rw [← hW0]; exact (r0.alloc _).alloc _
  have c1 : Blk W0 (We.heap.size + 1) #[.func (.yield l) #[] #[]] 131 := by rw [← hW0]; exact (r1.alloc _).alloc _
  have hB0 : Below We.heap.size We W0 := by
    rw [← hW0]
    exact (hbA.trans (hb1.mono (by simp; omega))).trans ((Joins.below_alloc2 w1 _ _).mono (by omega))
  have hJ0 : J [] W0 := ownFrom_below1 HJ.out h0 hB0
  have hG0 := HG.out.below hB0
  rw [hW0]
  clear q0 q1 r0 r1 hb1 hbA hW0 h0
  obtain ⟨m6, hm6⟩ : ∃ m, w1.heap.size = m := ⟨_, rfl⟩
  obtain ⟨me, hme⟩ : ∃ m, We.heap.size = m := ⟨_, rfl⟩
  have HMe := Lib.hid hme
  rw [hm6] at hs0 hs1 c6 c7 ⊢
  rw [hme] at hs1 c0 c1 hlbe ⊢
  clear hm6 hme
  refine wpIn_rangeFunc_ownH rfl (by omega) (gf := 114) (lb := #[.pointer (some ⟨m6 + 1, 0, none⟩), .pointer (some ⟨m6, 0, none⟩)]) rfl trivial (enters_of Tryd.func114 (by kernel_rfl) rfl)
    (spots_stops (gGrid a n ha1 hn1) M a n m6 (m6 + 1) ha hn (by show 0 ≤ 2; omega) (by show a = a + 2 * 0; omega) (by show n = n + 2 * 0; omega) (fun W h => HM2.out W _ h) Fence.wide (6 - 1) trivial rfl (by omega) W0 c6 c7) two2_t (two2_b (by omega) (by omega)) (Below.refl _ _) (fun _ => rfl)
    (fun pre W => (((((Blk W m6 M 63 ∧ Blk W (m6 + 1) #[.int .i64 0] 2) ∧ Blk W me #[.slice (some ⟨b, off, none⟩) n cap] 70) ∧ Blk W (me + 1) #[.func (.yield l) #[] #[]] 131) ∧ GAt W b off n a bb oo cc F lb) ∧ J pre W))
    (fun _ _ _ => False)
    (OwnFrom.and (OwnFrom.and (OwnFrom.and (OwnFrom.and (OwnFrom.and (Own.from (Blk.own _ _ _) _) (Own.from (Blk.own _ _ _) _)) (Own.from (Blk.own _ _ _) _)) (Own.from (Blk.own _ _ _) _)) (GAt.from _)) (fun s X Y row hs hg hr => HJ.out s X Y row hs hg (fun r e => ⟨Nat.le_trans hB0.size (hr r e).1, (hr r e).2⟩)))
    (fun _ _ _ _ _ hs _ _ => hs)
    ⟨⟨⟨⟨⟨c6, c7⟩, c0⟩, c1⟩, hG0⟩, hJ0⟩
    (fun x a' W => ∃ Bx, m6 + 1 < Bx ∧ Blk W Bx #[.int .i64 x.1.1, .int .i64 x.1.2] 93 ∧ a' = { tmps := #[.slice (some ⟨b, off, none⟩) n cap, .func (.yield l) #[] #[], .pointer (some ⟨me, 0, none⟩), .pointer (some ⟨me + 1, 0, none⟩), .pointer (some ⟨Bx, 0, none⟩), .slice (some ⟨b, off, none⟩) n cap, .agg M, .func (.func 114) #[] #[.pointer (some ⟨m6 + 1, 0, none⟩), .pointer (some ⟨m6, 0, none⟩)], .agg #[.int .i64 x.1.1, .int .i64 x.1.2], undef, undef, undef, undef, undef, undef, undef, undef, undef], defers := [] })
    (fun x a' s X Y row hs hg hrow => by
      obtain ⟨Bx, hBx, h2, he⟩ := hs
      exact ⟨Bx, hBx, Blk.own (β := Unit) _ _ _ () X Y row h2 hg (fun r e => (hrow r e).2), he⟩)
    ?assign ?body ?done ?stop
  case assign =>
    rintro l2 pre x W K ⟨⟨⟨⟨⟨b6, b7⟩, b0⟩, b1⟩, bG⟩, bJ⟩ hK
    have hlt := b7.lt
    have jb := ownFrom_below1 HJ.out bJ (Joins.below_alloc1 W (.cells #[.int .i64 x.1.1, .int .i64 x.1.2] 93))
    simp only [encP]
    gi_wp2
    exact hK _ _ ((KeepsOthers.alloc _ _).from _) (two2_below b6.lt b7.lt (Joins.below_alloc1 _ _)) ⟨⟨⟨⟨⟨b6.alloc _, b7.alloc _⟩, b0.alloc _⟩, b1.alloc _⟩, bG.below (Joins.below_alloc1 _ _)⟩, jb⟩ ⟨W.heap.size, hlt, heap_alloc_last W _, rfl⟩
  case body =>
    rintro l2 pre xe a' WB hl' _ ⟨⟨⟨⟨⟨b6, b7⟩, b0⟩, b1⟩, bG⟩, bJ⟩ ⟨Bx, hBx, h2, rfl⟩ hlt
    have hin := xe.2
    unfold InG at hin
    obtain ⟨x, hxn⟩ : ∃ k : Nat, xe.1.1 = k := ⟨xe.1.1.toNat, by omega⟩
    obtain ⟨y, hyn⟩ : ∃ k : Nat, xe.1.2 = k := ⟨xe.1.2.toNat, by omega⟩
    have hx : x < a := by omega
    have hy : y < n := by omega
    have h1 := bG.row y hy
    have hzc := bG.num y hy x hx
    have hyy : ∀ W, Below WB.heap.size WB W → ∃ fn tmps assign body, (Instr.yield l #[.agg #[.int .i64 (x : Int), .int .i64 (y : Int)], .int .i64 (F y x)]).run Tryd.prog W = .ok (.round l fn tmps assign body) W ∧ RoundIn (Fence.wide.inRound l2) (6 - 1 - 1 - 1) Tryd.prog l fn tmps assign body W (fun e W' => e = .returned (.bool true) ∧ J (pre ++ [xe]) W' ∧ Keep1 lb W W' ∧ KeepsFrom We.heap.size W W') := fun W hb => by
      have := yieldAny (6 - 1 - 1 - 1) l2 (HY.out pre xe W (ownFrom_below1 HJ.out bJ hb) hlt)
      have e : encG F xe = #[.agg #[.int .i64 (x : Int), .int .i64 (y : Int)], .int .i64 (F y x)] := by
        unfold encG
        rw [hxn, hyn, Int.toNat_natCast, Int.toNat_natCast]
      rwa [e] at this
    obtain ⟨z, hz⟩ : ∃ z, F y x = z := ⟨_, rfl⟩
    rw [hz] at hzc hyy
    rw [hxn, hyn] at h2 ⊢
    have HYY := Lib.hid hyy
    have HX : Hid (∀ W, Below WB.heap.size WB W → W.cell? ⟨Bx, 0, none⟩ = some (.int .i64 (x : Int)) ∧ W.cell? ⟨Bx, 1, none⟩ = some (.int .i64 (y : Int))) := fun W hb => ⟨cell_kept hb (by rw [Joins.cell_of_block h2 0]; rfl), cell_kept hb (by rw [Joins.cell_of_block h2 1]; rfl)⟩
    have HF : Hid (∀ W, Below WB.heap.size WB W → W.cell? ⟨me, 0, none⟩ = some (.slice (some ⟨b, off, none⟩) n cap) ∧ W.cell? ⟨me + 1, 0, none⟩ = some (.func (.yield l) #[] #[])) := fun W hb => ⟨cell_kept hb (cell_of_one b0), cell_kept hb (cell_of_one b1)⟩
    have HZ : Hid (∀ W, Below WB.heap.size WB W → W.cell? ⟨bb y, oo y + x, none⟩ = some (.int .i64 z)) := fun W hb => cell_kept hb hzc
    have CA : Hid (∀ W, Below WB.heap.size WB W → Calls Tryd.prog 97 #[.slice (some ⟨b, off, none⟩) n cap, .agg #[.int .i64 x, .int .i64 y]] W (fun e w' => e = .returned (.pointer (some ⟨bb y, oo y + x, none⟩)) ∧ Below W.heap.size W w')) := fun W hb => atG_at b off n cap a (bb y) (oo y) (cc y) x y W hx hy (cell_kept hb h1)
    have G6 := Lib.hid b6
    have G7 := Lib.hid b7
    have G0 := Lib.hid b0
    have G1 := Lib.hid b1
    have GG := Lib.hid bG
    have GJ := Lib.hid bJ
    clear hyy hz hzc h1 hin b6 b7 b0 b1 bG bJ h2 hxn hyn c0 c1 c6 c7 hG0 hJ0 CS HG HBA
    apply wpIn_block
    apply wpIn_seq
    refine wpIn_region_inv_at (by kernel_rfl) (by intro o ho; simp at ho; rcases ho with rfl | rfl | rfl | rfl | rfl | rfl | rfl | rfl | rfl <;> rfl) (fun A0 L A W => ∃ (b0 b1 b2 b3 b4 b5 b6 b7 b8 : Bool) (v9 v10 v11 v12 v13 v14 v15 v16 v17 : Value), L = #[b0, b1, b2, b3, b4, b5, b6, b7, b8] ∧ A = (((((((((A0.put (some 9) v9).put (some 10) v10).put (some 11) v11).put (some 12) v12).put (some 13) v13).put (some 14) v14).put (some 15) v15).put (some 16) v16).put (some 17) v17) ∧ (∃ Wp, Below WB.heap.size WB Wp ∧ (if b7 = true then (J (pre ++ [xe]) W ∧ Keep1 lb Wp W ∧ KeepsFrom We.heap.size Wp W) else W = Wp)) ∧ Hid (b0 = true → v9 = .func (.yield l) #[] #[]) ∧ Hid (b1 = true → v10 = .agg #[.int .i64 (x : Int), .int .i64 (y : Int)]) ∧ Hid (b2 = true → v11 = .slice (some ⟨b, off, none⟩) n cap) ∧ Hid (b3 = true → v12 = .agg #[.int .i64 (x : Int), .int .i64 (y : Int)]) ∧ Hid (b4 = true → v13 = .pointer (some ⟨bb y, oo y + x, none⟩)) ∧ Hid (b5 = true → v14 = .pointer (some ⟨bb y, oo y + x, none⟩)) ∧ Hid (b6 = true → v15 = .int .i64 z) ∧ Hid (b7 = true → v16 = .bool true) ∧ Hid (b8 = true → v17 = .bool false) ∧ Hid ((b0 = false → b7 = false) ∧ (b1 = false → b7 = false) ∧ (b6 = false → b7 = false)) ∧ Hid (b4 = true → b2 = true) ∧ Hid (b4 = true → b3 = true) ∧ Hid (b5 = true → b4 = true) ∧ Hid (b6 = true → b5 = true) ∧ Hid (b8 = true → b7 = true)) ?_ ?_ ?_
    · intro A0
      refine ⟨false, false, false, false, false, false, false, false, false, A0.tmps.getD 9 undef, A0.tmps.getD 10 undef, A0.tmps.getD 11 undef, A0.tmps.getD 12 undef, A0.tmps.getD 13 undef, A0.tmps.getD 14 undef, A0.tmps.getD 15 undef, A0.tmps.getD 16 undef, A0.tmps.getD 17 undef, rfl, (by simp only [put_self]), ⟨_, (Below.refl _ _).drew, (by simp)⟩, Lib.hid (fun hf => by cases hf), Lib.hid (fun hf => by cases hf), Lib.hid (fun hf => by cases hf), Lib.hid (fun hf => by cases hf), Lib.hid (fun hf => by cases hf), Lib.hid (fun hf => by cases hf), Lib.hid (fun hf => by cases hf), Lib.hid (fun hf => by cases hf), Lib.hid (fun hf => by cases hf), Lib.hid ⟨fun _ => rfl, fun _ => rfl, fun _ => rfl⟩, Lib.hid (fun hf => by cases hf), Lib.hid (fun hf => by cases hf), Lib.hid (fun hf => by cases hf), Lib.hid (fun hf => by cases hf), Lib.hid (fun hf => by cases hf)⟩
    · intro L A W hI i hi o ho K' hK
      have hlt := (ready_left hi).1
      have hun := (ready_left hi).2
      have haf := ready_after hi ho
      clear hi
      obtain ⟨b0, b1, b2, b3, b4, b5, b6, b7, b8, v9, v10, v11, v12, v13, v14, v15, v16, v17, rfl, rfl, hB, h0, h1, h2, h3, h4, h5, h6, h7, h8, p, u4_2, u4_3, u5_4, u6_5, w8⟩ := hI
      have hc : i = 0 ∨ i = 1 ∨ i = 2 ∨ i = 3 ∨ i = 4 ∨ i = 5 ∨ i = 6 ∨ i = 7 ∨ i = 8 := by
        simp at hlt
        omega
      rcases hc with rfl | rfl | rfl | rfl | rfl | rfl | rfl | rfl | rfl
      all_goals (obtain rfl := Option.some.inj ho; clear ho; simp [Region.binds] at haf hun; (try simp only [List.getElem_toArray, List.getElem_cons_zero, List.getElem_cons_succ]); simp only [Act.put, List.setIfInBounds_toArray, List.set_cons_zero, List.set_cons_succ])
      · -- operation 0
        replace hK := Lib.hid hK
        have hlast : b7 = false := p.out.1 hun
        subst hlast
        obtain ⟨Wp, hB, hWp⟩ := hB
        have hWq : W = Wp := by simpa using hWp
        clear hWp
        subst hWq
        have q0 := (HX.out W hB).1
        have q1 := (HX.out W hB).2
        have q2 := (HF.out W hB).1
        have q3 := (HF.out W hB).2
        have q4 := HZ.out W hB
        subst hun
        go_simp
        exact hK.out _ _ ⟨true, b1, b2, b3, b4, b5, b6, false, b8, .func (.yield l) #[] #[], v10, v11, v12, v13, v14, v15, v16, v17, rfl, (by simp only [Act.put, List.setIfInBounds_toArray, List.set_cons_zero, List.set_cons_succ]), ⟨_, hB, by simp⟩, Lib.hid (fun _ => rfl), h1, h2, h3, h4, h5, h6, h7, h8, Lib.hid ⟨(fun hf => by cases hf), (fun _ => rfl), (fun _ => rfl)⟩, u4_2, u4_3, u5_4, u6_5, w8⟩
      · -- operation 1
        replace hK := Lib.hid hK
        have hlast : b7 = false := p.out.2.1 hun
        subst hlast
        obtain ⟨Wp, hB, hWp⟩ := hB
        have hWq : W = Wp := by simpa using hWp
        clear hWp
        subst hWq
        have q0 := (HX.out W hB).1
        have q1 := (HX.out W hB).2
        have q2 := (HF.out W hB).1
        have q3 := (HF.out W hB).2
        have q4 := HZ.out W hB
        subst hun
        go_simp
        exact hK.out _ _ ⟨b0, true, b2, b3, b4, b5, b6, false, b8, v9, .agg #[.int .i64 (x : Int), .int .i64 (y : Int)], v11, v12, v13, v14, v15, v16, v17, rfl, (by simp only [Act.put, List.setIfInBounds_toArray, List.set_cons_zero, List.set_cons_succ]), ⟨_, hB, by simp⟩, h0, Lib.hid (fun _ => rfl), h2, h3, h4, h5, h6, h7, h8, Lib.hid ⟨(fun _ => rfl), (fun hf => by cases hf), (fun _ => rfl)⟩, u4_2, u4_3, u5_4, u6_5, w8⟩
      · -- operation 2
        replace hK := Lib.hid hK
        have hmid0 : b4 = false := by cases hb : b4 with | false => rfl | true => exact absurd (show true = false from (u4_2.out hb).symm.trans hun) (by decide)
        have hmid1 : b5 = false := by cases hb : b5 with | false => rfl | true => exact absurd (show true = false from (u5_4.out hb).symm.trans hmid0) (by decide)
        have hmid2 : b6 = false := by cases hb : b6 with | false => rfl | true => exact absurd (show true = false from (u6_5.out hb).symm.trans hmid1) (by decide)
        have hlast : b7 = false := p.out.2.2 hmid2
        clear hmid0 hmid1 hmid2
        subst hlast
        obtain ⟨Wp, hB, hWp⟩ := hB
        have hWq : W = Wp := by simpa using hWp
        clear hWp
        subst hWq
        have q0 := (HX.out W hB).1
        have q1 := (HX.out W hB).2
        have q2 := (HF.out W hB).1
        have q3 := (HF.out W hB).2
        have q4 := HZ.out W hB
        subst hun
        go_simp
        exact hK.out _ _ ⟨b0, b1, true, b3, b4, b5, b6, false, b8, v9, v10, .slice (some ⟨b, off, none⟩) n cap, v12, v13, v14, v15, v16, v17, rfl, (by simp only [Act.put, List.setIfInBounds_toArray, List.set_cons_zero, List.set_cons_succ]), ⟨_, hB, by simp⟩, h0, h1, Lib.hid (fun _ => rfl), h3, h4, h5, h6, h7, h8, Lib.hid ⟨(fun _ => rfl), (fun _ => rfl), (fun _ => rfl)⟩, Lib.hid (fun _ => rfl), u4_3, u5_4, u6_5, w8⟩
      · -- operation 3
        replace hK := Lib.hid hK
        have hmid0 : b4 = false := by cases hb : b4 with | false => rfl | true => exact absurd (show true = false from (u4_3.out hb).symm.trans hun) (by decide)
        have hmid1 : b5 = false := by cases hb : b5 with | false => rfl | true => exact absurd (show true = false from (u5_4.out hb).symm.trans hmid0) (by decide)
        have hmid2 : b6 = false := by cases hb : b6 with | false => rfl | true => exact absurd (show true = false from (u6_5.out hb).symm.trans hmid1) (by decide)
        have hlast : b7 = false := p.out.2.2 hmid2
        clear hmid0 hmid1 hmid2
        subst hlast
        obtain ⟨Wp, hB, hWp⟩ := hB
        have hWq : W = Wp := by simpa using hWp
        clear hWp
        subst hWq
        have q0 := (HX.out W hB).1
        have q1 := (HX.out W hB).2
        have q2 := (HF.out W hB).1
        have q3 := (HF.out W hB).2
        have q4 := HZ.out W hB
        subst hun
        go_simp
        exact hK.out _ _ ⟨b0, b1, b2, true, b4, b5, b6, false, b8, v9, v10, v11, .agg #[.int .i64 (x : Int), .int .i64 (y : Int)], v13, v14, v15, v16, v17, rfl, (by simp only [Act.put, List.setIfInBounds_toArray, List.set_cons_zero, List.set_cons_succ]), ⟨_, hB, by simp⟩, h0, h1, h2, Lib.hid (fun _ => rfl), h4, h5, h6, h7, h8, Lib.hid ⟨(fun _ => rfl), (fun _ => rfl), (fun _ => rfl)⟩, u4_2, Lib.hid (fun _ => rfl), u5_4, u6_5, w8⟩
      · -- operation 4
        replace hK := Lib.hid hK
        have hmid0 : b5 = false := by cases hb : b5 with | false => rfl | true => exact absurd (show true = false from (u5_4.out hb).symm.trans hun) (by decide)
        have hmid1 : b6 = false := by cases hb : b6 with | false => rfl | true => exact absurd (show true = false from (u6_5.out hb).symm.trans hmid0) (by decide)
        have hlast : b7 = false := p.out.2.2 hmid1
        clear hmid0 hmid1
        subst hlast
        obtain ⟨Wp, hB, hWp⟩ := hB
        have hWq : W = Wp := by simpa using hWp
        clear hWp
        subst hWq
        have q0 := (HX.out W hB).1
        have q1 := (HX.out W hB).2
        have q2 := (HF.out W hB).1
        have q3 := (HF.out W hB).2
        have q4 := HZ.out W hB
        obtain rfl := (h2.out (by simp only [haf])).symm
        obtain rfl := (h3.out (by simp only [haf])).symm
        subst hun
        go_simp
        refine ⟨trivial, ?_⟩
        refine (CallsIn.inRound l2 (callsIn_wide.2 (CA.out W hB))).mono ?_
        rintro e W' ⟨rfl, hb⟩
        have hkept := fun kb (hk : kb < W.heap.size) => hb.block kb hk
        exact hK.out _ _ ⟨b0, b1, b2, b3, true, b5, b6, false, b8, v9, v10, .slice (some ⟨b, off, none⟩) n cap, .agg #[.int .i64 (x : Int), .int .i64 (y : Int)], .pointer (some ⟨bb y, oo y + x, none⟩), v14, v15, v16, v17, rfl, (by simp only [Act.put, List.setIfInBounds_toArray, List.set_cons_zero, List.set_cons_succ]), ⟨_, hB.trans (hb.mono hB.size), by simp⟩, h0, h1, Lib.hid (fun _ => rfl), Lib.hid (fun _ => rfl), Lib.hid (fun _ => rfl), h5, h6, h7, h8, Lib.hid ⟨(fun _ => rfl), (fun _ => rfl), (fun _ => rfl)⟩, Lib.hid (fun _ => (by simp only [haf])), Lib.hid (fun _ => (by simp only [haf])), Lib.hid (fun _ => rfl), u6_5, w8⟩
      · -- operation 5
        replace hK := Lib.hid hK
        have hmid0 : b6 = false := by cases hb : b6 with | false => rfl | true => exact absurd (show true = false from (u6_5.out hb).symm.trans hun) (by decide)
        have hlast : b7 = false := p.out.2.2 hmid0
        clear hmid0
        subst hlast
        obtain ⟨Wp, hB, hWp⟩ := hB
        have hWq : W = Wp := by simpa using hWp
        clear hWp
        subst hWq
        have q0 := (HX.out W hB).1
        have q1 := (HX.out W hB).2
        have q2 := (HF.out W hB).1
        have q3 := (HF.out W hB).2
        have q4 := HZ.out W hB
        obtain rfl := (h4.out (by simp only [haf])).symm
        subst hun
        go_simp
        exact hK.out _ _ ⟨b0, b1, b2, b3, b4, true, b6, false, b8, v9, v10, v11, v12, .pointer (some ⟨bb y, oo y + x, none⟩), .pointer (some ⟨bb y, oo y + x, none⟩), v15, v16, v17, rfl, (by simp only [Act.put, List.setIfInBounds_toArray, List.set_cons_zero, List.set_cons_succ]), ⟨_, hB, by simp⟩, h0, h1, h2, h3, Lib.hid (fun _ => rfl), Lib.hid (fun _ => rfl), h6, h7, h8, Lib.hid ⟨(fun _ => rfl), (fun _ => rfl), (fun _ => rfl)⟩, u4_2, u4_3, Lib.hid (fun _ => (by simp only [haf])), Lib.hid (fun _ => rfl), w8⟩
      · -- operation 6
        replace hK := Lib.hid hK
        have hlast : b7 = false := p.out.2.2 hun
        subst hlast
        obtain ⟨Wp, hB, hWp⟩ := hB
        have hWq : W = Wp := by simpa using hWp
        clear hWp
        subst hWq
        have q0 := (HX.out W hB).1
        have q1 := (HX.out W hB).2
        have q2 := (HF.out W hB).1
        have q3 := (HF.out W hB).2
        have q4 := HZ.out W hB
        obtain rfl := (h5.out (by simp only [haf])).symm
        subst hun
        go_simp
        exact hK.out _ _ ⟨b0, b1, b2, b3, b4, b5, true, false, b8, v9, v10, v11, v12, v13, .pointer (some ⟨bb y, oo y + x, none⟩), .int .i64 z, v16, v17, rfl, (by simp only [Act.put, List.setIfInBounds_toArray, List.set_cons_zero, List.set_cons_succ]), ⟨_, hB, by simp⟩, h0, h1, h2, h3, h4, Lib.hid (fun _ => rfl), Lib.hid (fun _ => rfl), h7, h8, Lib.hid ⟨(fun _ => rfl), (fun _ => rfl), (fun hf => by cases hf)⟩, u4_2, u4_3, u5_4, Lib.hid (fun _ => (by simp only [haf])), w8⟩
      · -- operation 7
        replace hK := Lib.hid hK
        subst hun
        obtain ⟨Wp, hB, hWp⟩ := hB
        have hWq : W = Wp := by simpa using hWp
        clear hWp
        subst hWq
        have q0 := (HX.out W hB).1
        have q1 := (HX.out W hB).2
        have q2 := (HF.out W hB).1
        have q3 := (HF.out W hB).2
        have q4 := HZ.out W hB
        obtain rfl := (h0.out (by simp only [haf])).symm
        obtain rfl := (h1.out (by simp only [haf])).symm
        obtain rfl := (h6.out (by simp only [haf])).symm
        obtain ⟨fn, tmps, assign, body, hyv, hR⟩ := HYY.out W hB
        go_simp
        refine hR.mono ?_
        rintro e W' ⟨rfl, hset⟩
        exact hK.out _ _ ⟨b0, b1, b2, b3, b4, b5, b6, true, b8, .func (.yield l) #[] #[], .agg #[.int .i64 (x : Int), .int .i64 (y : Int)], v11, v12, v13, v14, .int .i64 z, .bool true, v17, rfl, (by simp only [Act.put, List.setIfInBounds_toArray, List.set_cons_zero, List.set_cons_succ]), ⟨_, hB, by simpa using hset⟩, Lib.hid (fun _ => rfl), Lib.hid (fun _ => rfl), h2, h3, h4, h5, Lib.hid (fun _ => rfl), Lib.hid (fun _ => rfl), Lib.hid (fun hx => absurd (w8.out hx) (by decide)), Lib.hid ⟨(fun hf => absurd (show false = true from hf.symm.trans (by simp only [haf])) (by decide)), (fun hf => absurd (show false = true from hf.symm.trans (by simp only [haf])) (by decide)), (fun hf => absurd (show false = true from hf.symm.trans (by simp only [haf])) (by decide))⟩, u4_2, u4_3, u5_4, u6_5, Lib.hid (fun _ => rfl)⟩
      · -- operation 8
        replace hK := Lib.hid hK
        obtain rfl := (h7.out (by simp only [haf])).symm
        subst hun
        go_simp
        exact hK.out _ _ ⟨b0, b1, b2, b3, b4, b5, b6, b7, true, v9, v10, v11, v12, v13, v14, v15, .bool true, .bool false, rfl, (by simp only [Act.put, List.setIfInBounds_toArray, List.set_cons_zero, List.set_cons_succ]), hB, h0, h1, h2, h3, h4, h5, h6, Lib.hid (fun _ => rfl), Lib.hid (fun _ => rfl), p, u4_2, u4_3, u5_4, u6_5, Lib.hid (fun _ => (by simp only [haf]))⟩
    intro L A W hI hr
    obtain ⟨b0, b1, b2, b3, b4, b5, b6, b7, b8, v9, v10, v11, v12, v13, v14, v15, v16, v17, rfl, rfl, hB, h0, h1, h2, h3, h4, h5, h6, h7, h8, p, u4_2, u4_3, u5_4, u6_5, w8⟩ := hI
    have d0 := ready_done hr 0 _ rfl (by simp [Region.binds])
    simp at d0
    subst d0
    have d1 := ready_done hr 1 _ rfl (by simp [Region.binds])
    simp at d1
    subst d1
    have d2 := ready_done hr 2 _ rfl (by simp [Region.binds])
    simp at d2
    subst d2
    have d3 := ready_done hr 3 _ rfl (by simp [Region.binds])
    simp at d3
    subst d3
    have d4 := ready_done hr 4 _ rfl (by simp [Region.binds])
    simp at d4
    subst d4
    have d5 := ready_done hr 5 _ rfl (by simp [Region.binds])
    simp at d5
    subst d5
    have d6 := ready_done hr 6 _ rfl (by simp [Region.binds])
    simp at d6
    subst d6
    have d7 := ready_done hr 7 _ rfl (by simp [Region.binds])
    simp at d7
    subst d7
    have d8 := ready_done hr 8 _ rfl (by simp [Region.binds])
    simp at d8
    subst d8
    obtain rfl := (h0.out rfl).symm
    obtain rfl := (h1.out rfl).symm
    obtain rfl := (h2.out rfl).symm
    obtain rfl := (h3.out rfl).symm
    obtain rfl := (h4.out rfl).symm
    obtain rfl := (h5.out rfl).symm
    obtain rfl := (h6.out rfl).symm
    obtain rfl := (h7.out rfl).symm
    obtain rfl := (h8.out rfl).symm
    obtain ⟨Wp, hB, hWp⟩ := hB
    have hSet : (J (pre ++ [xe]) W ∧ Keep1 lb Wp W ∧ KeepsFrom We.heap.size Wp W) := by simpa using hWp
    clear hWp
    simp only [Act.put, List.setIfInBounds_toArray, List.set_cons_zero, List.set_cons_succ]
    clear hr h0 h1 h2 h3 h4 h5 h6 h7 h8 p u4_2 u4_3 u5_4 u6_5 w8
    obtain ⟨hj, hk1, hkf⟩ := hSet
    have hk : Keep1 lb WB W := (Keep1.below hB).trans hk1
    have hlb2 : lb ≠ m6 ∧ lb ≠ m6 + 1 ∧ lb ≠ me ∧ lb ≠ me + 1 := by omega
    gi_wp2
    refine ⟨⟨Nat.le_trans hB.size hkf.size, fun k o hk2 hko hc => hkf.same k o (by rw [HMe.out]; omega) ((hB.block k (Array.getElem?_eq_some_iff.1 hko).1).trans hko) hc⟩, ⟨(keep1_blk hk (by omega) G6.out).trans G6.out.symm, (keep1_blk hk (by omega) G7.out).trans G7.out.symm⟩, ⟨⟨⟨⟨keep1_blk hk (by omega) G6.out, keep1_blk hk (by omega) G7.out⟩, keep1_blk hk (by omega) G0.out⟩, keep1_blk hk (by omega) G1.out⟩, GG.out.keep hk⟩, hj⟩
  case done =>
    rintro D ys W hD rfl ⟨⟨⟨⟨⟨b6, b7⟩, b0⟩, b1⟩, bG⟩, bJ⟩ hK
    have hJD := HJ.out.putObj (.deferred none) bJ (show We.heap.size ≤ D by rw [HMe.out]; omega) hK rfl
    have HJD := Lib.hid hJD
    have HKK := Lib.hid hK
    clear b6 b7 b0 b1 bG bJ hK hJD c0 c1 c6 c7 hG0 hJ0
    gi_wp2
    refine ⟨by simp, .inl ⟨_, _, rfl, run_takeDeferred HKK.out, ?_⟩⟩
    exact ⟨_, results_none rfl _ _ _, ⟨_, rfl⟩, _, rfl, HJD.out⟩
  case stop =>
    rintro D c pre W _ _ h _
    exact h.elim
end Go.Proofs.YtnmnlbgialolhaaDoor
