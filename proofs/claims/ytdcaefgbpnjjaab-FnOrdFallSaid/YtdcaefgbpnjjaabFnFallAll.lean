/- FnFallAll: one text out of Range, DownA, RangeL, FallA, FallM, DownB, FallB, DownM, DownC, FallC, DownS, FallS, DrawF, LFnOrdFall. -/
import Derived.RangeFuncNested
import Derived.RangeFuncBound
import Derived.RangeFuncCalls
import Derived.RangeFuncLeaves
import Derived.WalkKit
import Derived.OwnWalkIn
import Derived.Test.YtdcaefgbpnjjaabStepI
import Derived.Test.YtdcaefgbpnjjaabStepsD
import Derived.RangeFuncBox
import Derived.Shelf.Abstract
import Derived.TacticsInMore
import Derived.LoopNIn
import Derived.LoopIn
import Derived.Test.YtdcaefgbpnjjaabStepS
import Derived.Test.YtdcaefgbpnjjaabStepsL
import Derived.Test.YtdcaefgbpnjjaabDrawS
import Derived.Test.YtdcaefgbpnjjaabDraw0
import Derived.Test.YtdcaefgbpnjjaabFn1
/- Range -/
/- A range over an iterator that keeps state of its own in cells: the law of the statement, for such an iterator's contract. It imports nothing of the program. -/
namespace Go.Proofs.Ytdcaefgbpnjjaab
open Go.RowKit

/-- Whatever lay outside of the blocks from lo up to hi lies as it lay. -/
structure KO (lo hi : Nat) (W W' : World) : Prop where
  os : W'.os = W.os
  tape : W'.tape = W.tape
  output : W'.output = W.output
  size : W.heap.size ≤ W'.heap.size
  block : ∀ b, b < W.heap.size → (b < lo ∨ hi ≤ b) → W'.heap[b]? = W.heap[b]?

theorem KO.refl (lo hi : Nat) (W : World) : KO lo hi W W := ⟨rfl, rfl, rfl, Nat.le_refl _, fun _ _ _ => rfl⟩
theorem KO.trans {lo hi : Nat} {A B C : World} (h : KO lo hi A B) (k : KO lo hi B C) : KO lo hi A C :=
  ⟨k.os.trans h.os, k.tape.trans h.tape, k.output.trans h.output, Nat.le_trans h.size k.size, fun b hb ho => (k.block b (Nat.lt_of_lt_of_le hb h.size) ho).trans (h.block b hb ho)⟩
theorem KO.of_below {lo hi : Nat} {W W' : World} (h : Below W.heap.size W W') : KO lo hi W W' :=
  ⟨h.os, h.tape, h.output, h.size, fun b hb _ => h.block b hb⟩
theorem KO.setCell {lo hi : Nat} {A W : World} (h : KO lo hi A W) (b : Nat) (v : Value) (hb : lo ≤ b ∧ b < hi) : KO lo hi A (W.setCell ⟨b, 0, none⟩ v) := by
  have hg := grownBy_setCell' W b v
  exact ⟨hg.os.trans h.os, hg.tape.trans h.tape, hg.output.trans h.output, Nat.le_trans h.size hg.size, fun c hc ho => (hg.block c (Nat.lt_of_lt_of_le hc h.size) (by intro e; cases e; omega)).trans (h.block c hc ho)⟩
theorem KO.grown {lo hi : Nat} {A W W' : World} {row : Option Nat} (h : KO lo hi A W) (hg : W.grownBy W' row) (hr : ∀ r, row = some r → A.heap.size ≤ r ∨ (lo ≤ r ∧ r < hi)) : KO lo hi A W' :=
  ⟨hg.os.trans h.os, hg.tape.trans h.tape, hg.output.trans h.output, Nat.le_trans h.size hg.size, fun c hc ho => (hg.block c (Nat.lt_of_lt_of_le hc h.size) (by intro e; have := hr c e.symm; omega)).trans (h.block c hc ho)⟩

/-- The caller's word: it abides the turn of the iterator's own cells (the k blocks from B on), and of whatever is no cells from B on. -/
def AbX (B k : Nat) (J : Nat → World → Prop) : Prop :=
  ∀ s W W' row, J s W → W.grownBy W' row → (∀ r, row = some r → B ≤ r ∧ (r < B + k ∨ ∃ o : Obj, W.heap[r]? = some o ∧ o.isCells = false)) → J s W'

/-- An iterator's contract: it hands over the i-th value x where G i x holds; a round that goes on keeps what lies outside of the caller's blocks. -/
def SeqX {α : Type} (F : Fence) (n : Nat) (P : Program) (g : Nat) (lb : Array Value) (encs : α → Array Value) (k lo hi : Nat) (G : Nat → α → World → Prop) (S Sp : Nat → Prop) (w : World) : Prop :=
  ∀ (l : Nat) (J Jx : Nat → World → Prop) (W : World), Below w.heap.size w W → w.heap.size + 2 ≤ W.heap.size → AbX W.heap.size k J → AbX W.heap.size k Jx →
    (∀ i x W1, J i W1 → G i x W1 → YieldAt F (n - 1) P l (encs x) W1 fun e W' =>
      (e = .returned (.bool true) ∧ J (i + 1) W' ∧ KO lo hi W1 W') ∨ (e = .returned (.bool false) ∧ Jx (i + 1) W' ∧ W1.heap.size ≤ W'.heap.size ∧ ∀ b, W.heap.size ≤ b → b < W1.heap.size → W'.heap[b]? = W1.heap[b]?)) →
    J 0 W →
    CallsIn F n P g (#[.func (.yield l) #[] #[]] ++ lb) W fun e W' => (∃ v, e = .returned v) ∧ ((∃ i, S i ∧ J i W') ∨ (∃ i, Sp i ∧ Jx i W'))

def OwnX (B k : Nat) (I : Nat → World → Prop) : Prop :=
  ∀ s W W' row, I s W → W.grownBy W' row → (∀ r, row = some r → B ≤ r ∧ (r < B + 2 + k ∨ ∃ o : Obj, W.heap[r]? = some o ∧ o.isCells = false)) → I s W'

def postX (lo hi : Nat) (I : Nat → World → Prop) (Ix : Code → Nat → World → Prop) (i : Nat) (W : World) : Exit → Act → World → Prop
  | .normal, _, W' => KO lo hi W W' ∧ I i W'
  | .ret, _, W' => KO lo hi W W' ∧ Ix .ret i W'
  | .exit id, _, W' => KO lo hi W W' ∧ Ix (.exit id) i W'
  | .goto t, _, W' => KO lo hi W W' ∧ Ix (.goto t) i W'
  | .panic _, _, _ => False
  | .outgrown, _, _ => False

variable {F : Fence} {n : Nat} {P : Program}

set_option maxHeartbeats 1000000 in
theorem wpIn_rangeX {α : Type} {g : Operand} {ps : Array Tmp} {assign body : Code} {Q : Exit → Act → World → Prop} {a : Act} {w : World}
    (hro : F.round = none) (h1 : 1 ≤ n) {gf : Nat} {lb : Array Value} (hg : a.eval g = .func (.func gf) #[] lb) (hFg : F.fn gf) (eg : ∀ args w, (callFunc gf args).run P w = .ok (.enter gf args) w)
    {encs : α → Array Value} {k lo hi : Nat} {G : Nat → α → World → Prop} {S Sp : Nat → Prop} {w0 : World} (hseq : SeqX F (n - 1) P gf lb encs k lo hi G S Sp w0)
    (hhi : hi ≤ w.heap.size) (hb0 : Below w0.heap.size w0 w) (hps : ∀ x, (encs x).size = ps.size)
    (hG : ∀ i x W l o o', G i x W → w.heap.size ≤ l → W.heap[l]? = some o → o.isCells = false → G i x (W.putObj l o'))
    (I : Nat → World → Prop) (Ix : Code → Nat → World → Prop) (hI : OwnX w.heap.size k I) (hIx : ∀ c, OwnX w.heap.size k (Ix c)) (h0 : I 0 w) (a₁ : α → Act)
    (hassign : ∀ (l : Nat) (x : α) (W : World) (K : Act → World → Prop), K (a₁ x) W →
      assign.wpIn (F.inRound l) (n - 1 - 1) P (Exit.then K (fun _ _ _ => False)) { tmps := (ps.zip (encs x)).foldl (fun t (p, v) => t.setIfInBounds p v) a.tmps, defers := [] } W)
    (hbody : ∀ (l i : Nat) (x : α) (W : World), w.heap.size ≤ l → I i W → G i x W → body.wpIn (F.inRound l) (n - 1 - 1) P (postX lo hi I Ix (i + 1) W) (a₁ x) W)
    (hdone : ∀ (D i : Nat) (W : World), w.heap.size ≤ D → S i → I i W → W.heap[D]? = some (.deferred (some [])) → Q .normal { a with defers := { target := .collected D, args := #[] } :: a.defers } W)
    (hstop : ∀ (D : Nat) (c : Code) (i : Nat) (W : World), w.heap.size ≤ D → Sp i → Ix c i W → W.heap[D]? = some (.deferred (some [])) → c.wpIn F n P Q { a with defers := { target := .collected D, args := #[] } :: a.defers } W) :
    (Code.rangeFunc g ps assign body).wpIn F n P Q a w := by
  have hIp : ∀ {J : Nat → World → Prop} (hJ : OwnX w.heap.size k J) {s : Nat} {W : World} {l : Nat} {o : Obj} (o' : Obj), J s W → w.heap.size ≤ l → W.heap[l]? = some o → o.isCells = false → J s (W.putObj l o') :=
    fun hJ s W l o o' hs hB hl ho => hJ s W _ (some l) hs (grownBy_putObj' W l o') (fun r e => by cases e; exact ⟨hB, .inr ⟨o, hl, ho⟩⟩)
  have hIa : ∀ {J : Nat → World → Prop} (hJ : OwnX w.heap.size k J) {s : Nat} {W : World} (o : Obj), J s W → J s (W.alloc o) :=
    fun hJ s W o hs => hJ s W _ none hs (World.grownBy_alloc W o none) (fun r e => by cases e)
  refine wpIn_rangeFunc ?_
  intro fn hfn
  rw [hro]
  obtain ⟨rec, hrec⟩ : ∃ rec : LoopState → Option Code → Loop, rec = fun st pe => { state := st, pending := pe, fn, tmps := a.tmps, params := ps, assign, body, defers := w.heap.size } := ⟨_, rfl⟩
  obtain ⟨W1, hW1⟩ : ∃ W1, (w.alloc (.deferred (some []))).alloc (.loop (rec .ready none)) = W1 := ⟨_, rfl⟩
  have hL1 : W1.heap[w.heap.size + 1]? = some (.loop (rec .ready none)) := by
    rw [← hW1]; have := World.alloc_heap_new (w.alloc (.deferred (some []))) (.loop (rec .ready none)); rwa [World.size_alloc] at this
  have hK1 : W1.heap[w.heap.size]? = some (.deferred (some [])) := by
    rw [← hW1]; exact (Below.heap_alloc _ _ _ (by simp)).trans (World.alloc_heap_new w _)
  have hs1 : W1.heap.size = w.heap.size + 2 := by rw [← hW1]; simp
  have hI1 : I 0 W1 := by rw [← hW1]; exact hIa hI _ (hIa hI _ h0)
  have hb1 : Below w0.heap.size w0 W1 := by
    rw [← hW1]; exact hb0.trans ((((Below.refl _ w).alloc (Nat.le_refl _) _).alloc (by simp) _).mono hb0.size)
  refine ⟨w.heap.size + 1, [{ target := .collected w.heap.size, args := #[] }], W1, { target := .fn (.func gf) lb, args := #[.func (.yield (w.heap.size + 1)) #[] #[]] }, W1, gf,
    #[.func (.yield (w.heap.size + 1)) #[] #[]] ++ lb, W1, ?_, ?_, ?_, ?_, fun _ => h1, ?_⟩
  · rw [← hW1, hrec]; exact run_enterLoop_outer _ _ _ _ _
  · simp only [resolve, hg]
    simp [go_sem]
  · intro f' hf'; simp [Target.leads] at hf'; subst hf'; exact hFg
  · simp [invoke, go_sem, eg]
  · have hup : ∀ {A : World} {row : Option Nat}, (∀ r, row = some r → W1.heap.size ≤ r ∧ (r < W1.heap.size + k ∨ ∃ o : Obj, A.heap[r]? = some o ∧ o.isCells = false)) →
        (∀ r, row = some r → w.heap.size ≤ r ∧ (r < w.heap.size + 2 + k ∨ ∃ o : Obj, A.heap[r]? = some o ∧ o.isCells = false)) :=
      fun hr r e => by obtain ⟨hB, ho⟩ := hr r e; rw [hs1] at hB ho; exact ⟨by omega, ho⟩
    have hkeep : ∀ {A B : World} {row : Option Nat} {b : Nat} {o : Obj}, A.grownBy B row → (∀ r, row = some r → W1.heap.size ≤ r ∧ (r < W1.heap.size + k ∨ ∃ o : Obj, A.heap[r]? = some o ∧ o.isCells = false)) →
        b < w.heap.size + 2 → A.heap[b]? = some o → B.heap[b]? = some o := fun hg hr hb h => (hg.block _ (Array.getElem?_eq_some_iff.1 h).1 (fun e => by have := (hr _ e.symm).1; rw [hs1] at this; omega)).trans h
    refine (hseq (w.heap.size + 1)
      (fun i W => I i W ∧ W.heap[w.heap.size + 1]? = some (.loop (rec .ready none)) ∧ W.heap[w.heap.size]? = some (.deferred (some [])))
      (fun i W => ∃ c, Ix c i W ∧ W.heap[w.heap.size + 1]? = some (.loop (rec .done (some c))) ∧ W.heap[w.heap.size]? = some (.deferred (some [])))
      W1 hb1 (by have := hb0.size; omega)
      (fun s A B row hs hg' hr => ⟨hI s A B row hs.1 hg' (hup hr), hkeep hg' hr (by omega) hs.2.1, hkeep hg' hr (by omega) hs.2.2⟩)
      (fun s A B row hs hg' hr => by
        obtain ⟨c, hc, hl, hk⟩ := hs
        exact ⟨c, hIx c s A B row hc hg' (hup hr), hkeep hg' hr (by omega) hl, hkeep hg' hr (by omega) hk⟩)
      ?_ ⟨hI1, hL1, hK1⟩).mono ?_
    · rintro i x W ⟨hIi, hl, hk⟩ hgx
      have hlt : w.heap.size + 1 < W.heap.size := (Array.getElem?_eq_some_iff.1 hl).1
      have hy := run_yield (P := P) (args := encs x) hl (by rw [hrec]; exact hps x)
      rw [hrec] at hy
      refine ⟨fn, _, assign, body, hy, roundIn_of_wpIn hfn (hassign _ x W _ ?_)⟩
      clear hy
      refine ⟨_, run_beginRound hl (by rw [hrec]), ?_⟩
      have hl2 : (W.putObj (w.heap.size + 1) (.loop { rec .ready none with state := .busy })).heap[w.heap.size + 1]? = some (.loop { rec .ready none with state := .busy }) := World.putObj_heap_same hlt
      have hk2 : (W.putObj (w.heap.size + 1) (.loop { rec .ready none with state := .busy })).heap[w.heap.size]? = some (.deferred (some [])) := (World.putObj_heap_other (by omega)).trans hk
      have hsz2 : (W.putObj (w.heap.size + 1) (.loop { rec .ready none with state := .busy })).heap.size = W.heap.size := by simp [World.putObj]
      refine wpIn_mono (hbody _ i x _ (by omega) (hIp hI _ hIi (by omega) hl rfl) (hG _ _ _ _ _ _ hgx (by omega) hl rfl)) ?_
      have fin : ∀ (jump : Option Code) (W3 : World), KO lo hi (W.putObj (w.heap.size + 1) (.loop { rec .ready none with state := .busy })) W3 →
          (Instr.endRound (w.heap.size + 1) jump).run P W3 = .ok (.bool jump.isNone) (W3.putObj (w.heap.size + 1) (.loop (rec (if jump.isNone then .ready else .done) jump))) ∧
          W3.heap[w.heap.size + 1]? = some (.loop { rec .ready none with state := .busy }) ∧
          (W3.putObj (w.heap.size + 1) (.loop (rec (if jump.isNone then .ready else .done) jump))).heap[w.heap.size + 1]? = some (.loop (rec (if jump.isNone then .ready else .done) jump)) ∧
          (W3.putObj (w.heap.size + 1) (.loop (rec (if jump.isNone then .ready else .done) jump))).heap[w.heap.size]? = some (.deferred (some [])) := fun jump W3 hk3 => by
        have hl3 := (hk3.block _ (by rw [hsz2]; exact hlt) (by omega)).trans hl2
        have := run_endRound (P := P) jump hl3
        rw [hrec] at this ⊢
        exact ⟨this, by rw [hrec] at hl3; exact hl3, World.putObj_heap_same (Array.getElem?_eq_some_iff.1 hl3).1, (World.putObj_heap_other (by omega)).trans ((hk3.block _ (by rw [hsz2]; omega) (by omega)).trans hk2)⟩
      -- what lay outside of the caller's blocks, but for the record, lies as it lay
      have kout : ∀ (o' : Obj) (W3 : World), KO lo hi (W.putObj (w.heap.size + 1) (.loop { rec .ready none with state := .busy })) W3 →
          ∀ b, b < W.heap.size → (b < lo ∨ hi ≤ b) → b ≠ w.heap.size + 1 → (W3.putObj (w.heap.size + 1) o').heap[b]? = W.heap[b]? := fun o' W3 hk3 b hb ho hne =>
        (World.putObj_heap_other hne).trans ((hk3.block b (by rw [hsz2]; exact hb) ho).trans (World.putObj_heap_other hne))
      rintro e a3 W3 hp
      cases e with
      | normal =>
        obtain ⟨hk3, hi3⟩ := hp
        obtain ⟨hr, hl3, hl4, hk4⟩ := fin none W3 hk3
        refine ⟨_, _, hr, .inl ⟨rfl, ⟨hIp hI _ hi3 (by omega) hl3 rfl, hl4, hk4⟩, ?_⟩⟩
        refine ⟨hk3.os, hk3.tape, hk3.output, by have := hk3.size; rw [hsz2] at this; simpa [World.putObj] using this, fun b hb ho => ?_⟩
        by_cases hbe : b = w.heap.size + 1
        · subst hbe; exact hl4.trans hl.symm
        · exact kout _ W3 hk3 b hb ho hbe
      | ret =>
        obtain ⟨hk3, hi3⟩ := hp
        obtain ⟨hr, hl3, hl4, hk4⟩ := fin (some .ret) W3 hk3
        exact ⟨_, _, hr, .inr ⟨rfl, ⟨.ret, hIp (hIx _) _ hi3 (by omega) hl3 rfl, hl4, hk4⟩, by have := hk3.size; rw [hsz2] at this; simpa [World.putObj] using this, fun b hb hbl => kout _ W3 hk3 b hbl (by omega) (by omega)⟩⟩
      | exit id =>
        obtain ⟨hk3, hi3⟩ := hp
        obtain ⟨hr, hl3, hl4, hk4⟩ := fin (some (.exit id)) W3 hk3
        exact ⟨_, _, hr, .inr ⟨rfl, ⟨.exit id, hIp (hIx _) _ hi3 (by omega) hl3 rfl, hl4, hk4⟩, by have := hk3.size; rw [hsz2] at this; simpa [World.putObj] using this, fun b hb hbl => kout _ W3 hk3 b hbl (by omega) (by omega)⟩⟩
      | goto t =>
        obtain ⟨hk3, hi3⟩ := hp
        obtain ⟨hr, hl3, hl4, hk4⟩ := fin (some (.goto t)) W3 hk3
        exact ⟨_, _, hr, .inr ⟨rfl, ⟨.goto t, hIp (hIx _) _ hi3 (by omega) hl3 rfl, hl4, hk4⟩, by have := hk3.size; rw [hsz2] at this; simpa [World.putObj] using this, fun b hb hbl => kout _ W3 hk3 b hbl (by omega) (by omega)⟩⟩
      | panic ch => exact hp.elim
      | outgrown => exact hp.elim
    · rintro e W2 ⟨⟨v, rfl⟩, (⟨i, hS, hi, hl, hk⟩ | ⟨i, hSp, c, hi, hl, hk⟩)⟩
      · exact ⟨none, _, by have := run_endLoop (P := P) hl (by rw [hrec]; simp); rw [hrec] at this; exact this, hdone _ i _ (Nat.le_refl _) hS (hIp hI _ hi (by omega) hl rfl) ((World.putObj_heap_other (by omega)).trans hk)⟩
      · exact ⟨some c, _, by have := run_endLoop (P := P) hl (by rw [hrec]; simp); rw [hrec] at this; exact this, hstop _ c i _ (Nat.le_refl _) hSp (hIp (hIx c) _ hi (by omega) hl rfl) ((World.putObj_heap_other (by omega)).trans hk)⟩

end Go.Proofs.Ytdcaefgbpnjjaab

/- DownA -/
/- The iterators of the steps down: 'repeated'. -/
namespace Go.Proofs.Ytdcaefgbpnjjaab
open Go.RowKit Go.Shelf

attribute [local go_sem] Oper.semAt_some

/-- What lay below n₀, but for the blocks from lo up to hi, lies as it lay. -/
def KL (lo hi n₀ : Nat) (W W' : World) : Prop := W.heap.size ≤ W'.heap.size ∧ ∀ b, b < n₀ → b < W.heap.size → (b < lo ∨ hi ≤ b) → W'.heap[b]? = W.heap[b]?
theorem KL.refl (lo hi n₀ : Nat) (W : World) : KL lo hi n₀ W W := ⟨Nat.le_refl _, fun _ _ _ _ => rfl⟩
theorem KL.trans {lo hi n₀ : Nat} {A B C : World} (h : KL lo hi n₀ A B) (k : KL lo hi n₀ B C) : KL lo hi n₀ A C :=
  ⟨Nat.le_trans h.1 k.1, fun b h1 h2 h3 => (k.2 b h1 (Nat.lt_of_lt_of_le h2 h.1) h3).trans (h.2 b h1 h2 h3)⟩
theorem KL.cell {lo hi n₀ : Nat} {A B : World} (h : KL lo hi n₀ A B) {b o : Nat} {v : Value} (hc : A.cell? ⟨b, o, none⟩ = some v) (h1 : b < n₀) (h3 : b < lo ∨ hi ≤ b) : B.cell? ⟨b, o, none⟩ = some v :=
  (World.cell?_of_block (h.2 b h1 (World.block_lt_of_cell? A _ hc) h3)).trans hc
theorem KL.put {lo hi n₀ : Nat} {w : World} (hn : n₀ ≤ w.heap.size) (W : World) (l : Nat) (o o' : Obj) (hl : w.heap.size ≤ l) (_ : W.heap[l]? = some o) (_ : o.isCells = false) (_ : o.isWalk = false) : KL lo hi n₀ W (W.putObj l o') :=
  ⟨by simp [World.putObj], fun b h1 _ _ => World.putObj_heap_other (by omega)⟩

/-- At the widest fence a call of yield wants no room. -/
theorem YieldAt.wide {n m l : Nat} {P : Program} {args : Array Value} {W : World} {R : Ending → World → Prop} (h : YieldAt Fence.wide n P l args W R) : YieldAt Fence.wide m P l args W R := by
  obtain ⟨fn, tmps, assign, body, hy, h1, h2⟩ := h
  exact ⟨fn, tmps, assign, body, hy, h1, fun c cs _ => h2 c cs (room_wide _)⟩

set_option maxRecDepth 100000 in
set_option maxHeartbeats 2000000 in
theorem repeated1_stops (n : Nat) (v : Int) (M lo hi n₀ b1 b2 : Nat) (w0 : World) (hM : M ≤ 3000) (hn0 : n₀ ≤ w0.heap.size) (h1 : b1 < n₀ ∧ (b1 < lo ∨ hi ≤ b1)) (h2 : b2 < n₀ ∧ (b2 < lo ∨ hi ≤ b2))
    (hc1 : w0.cell? ⟨b1, 0, none⟩ = some (.int .i64 M)) (hc2 : w0.cell? ⟨b2, 0, none⟩ = some (.int .i64 v)) :
    SeqStopsK Fence.wide n Try.prog 80 #[.pointer (some ⟨b1, 0, none⟩), .pointer (some ⟨b2, 0, none⟩)] (fun _ : Unit => #[.int .i64 v]) (KL lo hi n₀)
      (fun xs => xs.length = M) (fun pre => 1 ≤ pre.length ∧ pre.length ≤ M) M w0 := by
  intro l J Jx W hW _ _ hY h0
  have hd1 := (hW.cell (p := ⟨b1, 0, none⟩) (Nat.lt_of_lt_of_le h1.1 hn0)).trans hc1
  have hd2 := (hW.cell (p := ⟨b2, 0, none⟩) (Nat.lt_of_lt_of_le h2.1 hn0)).trans hc2
  have H1 := Lib.hid h1
  have H2 := Lib.hid h2
  clear hW hc1 hc2 h1 h2
  refine callsIn_of_wp Try.func80 rfl trivial ?_ rfl
  simp only [Try.ntmps80, List.size_toArray, List.length_cons, List.length_nil, Nat.reduceAdd, Nat.reduceSub, Array.replicate_succ, Array.replicate_zero, List.push_toArray, List.append_toArray, List.nil_append, List.cons_append]
  gi_wp2
  gi_loopw [5] (fun i wr => ∃ pre : List Unit, pre.length ≤ M ∧ i = .int .i64 (pre.length : Nat) ∧ J pre wr ∧ KL lo hi n₀ W wr)
    (fun i _ => M - (intOf i).toNat)
  case atStart => exact ⟨[], Nat.zero_le _, rfl, h0, KL.refl _ _ _ _⟩
  case round =>
    obtain ⟨pre, hk, rfl, hJs, hnx⟩ := hrel
    obtain ⟨k, hkl⟩ : ∃ k, k = pre.length := ⟨_, rfl⟩
    rw [← hkl] at hk ⊢
    have Hkl := Lib.hid hkl
    have Hnx := Lib.hid hnx
    have hcx := hnx.cell hd2 H2.out.1 H2.out.2
    by_cases hlt : k < M
    · obtain ⟨fn, tmps, assign, body, hy, hR⟩ := hY pre () wr hJs (by rw [← hkl]; exact hlt)
      clear hkl hnx
      gi_wp2
      refine ⟨fun h => (by cases h), hR.mono ?_⟩
      rintro e W3 (⟨rfl, hJ3, hk3⟩ | ⟨rfl, hJx3⟩)
      · gi_wp2
        go_roundw
        case rel => exact ⟨pre ++ [()], by have := Hkl.out; simp; omega, by have := Hkl.out; simp; omega, hJ3, Hnx.out.trans hk3⟩
        case measure => simp [intOf]; omega
      · gi_wp2
        refine bodyPost_ret (results_none rfl _ _ _) rfl ?_
        exact ⟨⟨_, rfl⟩, .inr ⟨_, ⟨by simp, by have := Hkl.out; simp; omega⟩, hJx3⟩⟩
    · obtain rfl : k = M := by omega
      clear hkl hnx
      gi_wp2
      go_end0
      exact ⟨⟨_, rfl⟩, .inl ⟨_, Hkl.out.symm, hJs⟩⟩
end Go.Proofs.Ytdcaefgbpnjjaab

/- RangeL -/
/- The law of Range once more, for whatever index (what has come so far) and for a caller that grows a row of its own: it may write into cells of one type of elements from the block q on. It imports nothing of the program. -/
namespace Go.Proofs.Ytdcaefgbpnjjaab
open Go.RowKit

/-- A block that the caller may write: from lo up to hi, or cells of the type ty from q on. -/
def Free (lo hi q : Nat) (ty : TypeId) (W : World) (b : Nat) : Prop := (lo ≤ b ∧ b < hi) ∨ (q ≤ b ∧ ∃ cs fr, W.heap[b]? = some (.cells cs ty fr))

/-- Whatever lay outside of these lies as it lay; and they stay what they are. -/
structure KQ (lo hi q : Nat) (ty : TypeId) (W W' : World) : Prop where
  os : W'.os = W.os
  tape : W'.tape = W.tape
  output : W'.output = W.output
  size : W.heap.size ≤ W'.heap.size
  block : ∀ b, b < W.heap.size → ¬ Free lo hi q ty W b → W'.heap[b]? = W.heap[b]?

/-- The caller's word: it abides the turn of the iterator's own cells (the k blocks from B on), and of whatever is no cells from B on. -/
def AbL {σ : Type} (B k : Nat) (J : σ → World → Prop) : Prop :=
  ∀ s W W' row, J s W → W.grownBy W' row → (∀ r, row = some r → B ≤ r ∧ (r < B + k ∨ ∃ o : Obj, W.heap[r]? = some o ∧ o.isCells = false)) → J s W'

/-- An iterator's contract: it hands over the i-th value x where G i x holds; a round that goes on keeps what lies outside of the caller's blocks. -/
def SeqL {α σ : Type} (F : Fence) (n : Nat) (P : Program) (g : Nat) (lb : Array Value) (encs : α → Array Value) (s0 : σ) (nx : σ → α → σ) (k lo hi q : Nat) (ty : TypeId) (G : σ → α → World → Prop) (S Sp : σ → Prop) (w : World) : Prop :=
  ∀ (l : Nat) (J Jx : σ → World → Prop) (W : World), Below w.heap.size w W → W.heap.size = w.heap.size + 2 → AbL W.heap.size k J → AbL W.heap.size k Jx →
    (∀ i x W1, J i W1 → G i x W1 → YieldAt F (n - 1) P l (encs x) W1 fun e W' =>
      (e = .returned (.bool true) ∧ J (nx i x) W' ∧ KQ lo hi q ty W1 W') ∨ (e = .returned (.bool false) ∧ Jx (nx i x) W' ∧ W1.heap.size ≤ W'.heap.size ∧ ∀ b, W.heap.size ≤ b → b < W1.heap.size → ¬ Free lo hi q ty W1 b → W'.heap[b]? = W1.heap[b]?)) →
    J s0 W →
    CallsIn F n P g (#[.func (.yield l) #[] #[]] ++ lb) W fun e W' => (∃ v, e = .returned v) ∧ ((∃ i, S i ∧ J i W') ∨ (∃ i, Sp i ∧ Jx i W'))

def OwnL {σ : Type} (B k : Nat) (I : σ → World → Prop) : Prop :=
  ∀ s W W' row, I s W → W.grownBy W' row → (∀ r, row = some r → B ≤ r ∧ (r < B + 2 + k ∨ ∃ o : Obj, W.heap[r]? = some o ∧ o.isCells = false)) → I s W'

def postL {σ : Type} (lo hi q : Nat) (ty : TypeId) (I : σ → World → Prop) (Ix : Code → σ → World → Prop) (i : σ) (W : World) : Exit → Act → World → Prop
  | .normal, _, W' => KQ lo hi q ty W W' ∧ I i W'
  | .ret, _, W' => KQ lo hi q ty W W' ∧ Ix .ret i W'
  | .exit id, _, W' => KQ lo hi q ty W W' ∧ Ix (.exit id) i W'
  | .goto t, _, W' => KQ lo hi q ty W W' ∧ Ix (.goto t) i W'
  | .panic _, _, _ => False
  | .outgrown, _, _ => False

variable {F : Fence} {n : Nat} {P : Program}

set_option maxHeartbeats 1000000 in
theorem wpIn_rangeL {α σ : Type} {g : Operand} {ps : Array Tmp} {assign body : Code} {Q : Exit → Act → World → Prop} {a : Act} {w : World}
    (hro : F.round = none) (h1 : 1 ≤ n) {gf : Nat} {lb : Array Value} (hg : a.eval g = .func (.func gf) #[] lb) (hFg : F.fn gf) (eg : ∀ args w, (callFunc gf args).run P w = .ok (.enter gf args) w)
    {encs : α → Array Value} {s0 : σ} {nx : σ → α → σ} {k lo hi q : Nat} {ty : TypeId} {G : σ → α → World → Prop} {S Sp : σ → Prop} (hseq : SeqL F (n - 1) P gf lb encs s0 nx k lo hi q ty G S Sp w)
    (hhi : hi ≤ w.heap.size) (hq : w.heap.size + 2 ≤ q) (hps : ∀ x, (encs x).size = ps.size)
    (hG : ∀ i x W l o o', G i x W → w.heap.size ≤ l → W.heap[l]? = some o → o.isCells = false → G i x (W.putObj l o'))
    (I : σ → World → Prop) (Ix : Code → σ → World → Prop) (hI : OwnL w.heap.size k I) (hIx : ∀ c, OwnL w.heap.size k (Ix c)) (h0 : I s0 w) (a₁ : α → Act)
    (hassign : ∀ (l : Nat) (x : α) (W : World) (K : Act → World → Prop), K (a₁ x) W →
      assign.wpIn (F.inRound l) (n - 1 - 1) P (Exit.then K (fun _ _ _ => False)) { tmps := (ps.zip (encs x)).foldl (fun t (p, v) => t.setIfInBounds p v) a.tmps, defers := [] } W)
    (hbody : ∀ (l : Nat) (i : σ) (x : α) (W : World), w.heap.size ≤ l → I i W → G i x W → body.wpIn (F.inRound l) (n - 1 - 1) P (postL lo hi q ty I Ix (nx i x) W) (a₁ x) W)
    (hdone : ∀ (D : Nat) (i : σ) (W : World), w.heap.size ≤ D → S i → I i W → W.heap[D]? = some (.deferred (some [])) → Q .normal { a with defers := { target := .collected D, args := #[] } :: a.defers } W)
    (hstop : ∀ (D : Nat) (c : Code) (i : σ) (W : World), w.heap.size ≤ D → Sp i → Ix c i W → W.heap[D]? = some (.deferred (some [])) → c.wpIn F n P Q { a with defers := { target := .collected D, args := #[] } :: a.defers } W) :
    (Code.rangeFunc g ps assign body).wpIn F n P Q a w := by
  have hIp : ∀ {J : σ → World → Prop} (hJ : OwnL w.heap.size k J) {s : σ} {W : World} {l : Nat} {o : Obj} (o' : Obj), J s W → w.heap.size ≤ l → W.heap[l]? = some o → o.isCells = false → J s (W.putObj l o') :=
    fun hJ s W l o o' hs hB hl ho => hJ s W _ (some l) hs (grownBy_putObj' W l o') (fun r e => by cases e; exact ⟨hB, .inr ⟨o, hl, ho⟩⟩)
  have hIa : ∀ {J : σ → World → Prop} (hJ : OwnL w.heap.size k J) {s : σ} {W : World} (o : Obj), J s W → J s (W.alloc o) :=
    fun hJ s W o hs => hJ s W _ none hs (World.grownBy_alloc W o none) (fun r e => by cases e)
  refine wpIn_rangeFunc ?_
  intro fn hfn
  rw [hro]
  obtain ⟨rec, hrec⟩ : ∃ rec : LoopState → Option Code → Loop, rec = fun st pe => { state := st, pending := pe, fn, tmps := a.tmps, params := ps, assign, body, defers := w.heap.size } := ⟨_, rfl⟩
  obtain ⟨W1, hW1⟩ : ∃ W1, (w.alloc (.deferred (some []))).alloc (.loop (rec .ready none)) = W1 := ⟨_, rfl⟩
  have hL1 : W1.heap[w.heap.size + 1]? = some (.loop (rec .ready none)) := by
    rw [← hW1]; have := World.alloc_heap_new (w.alloc (.deferred (some []))) (.loop (rec .ready none)); rwa [World.size_alloc] at this
  have hK1 : W1.heap[w.heap.size]? = some (.deferred (some [])) := by
    rw [← hW1]; exact (Below.heap_alloc _ _ _ (by simp)).trans (World.alloc_heap_new w _)
  have hs1 : W1.heap.size = w.heap.size + 2 := by rw [← hW1]; simp
  have hI1 : I s0 W1 := by rw [← hW1]; exact hIa hI _ (hIa hI _ h0)
  have hb1 : Below w.heap.size w W1 := by
    rw [← hW1]; exact ((Below.refl _ w).alloc (Nat.le_refl _) _).alloc (by simp) _
  refine ⟨w.heap.size + 1, [{ target := .collected w.heap.size, args := #[] }], W1, { target := .fn (.func gf) lb, args := #[.func (.yield (w.heap.size + 1)) #[] #[]] }, W1, gf,
    #[.func (.yield (w.heap.size + 1)) #[] #[]] ++ lb, W1, ?_, ?_, ?_, ?_, fun _ => h1, ?_⟩
  · rw [← hW1, hrec]; exact run_enterLoop_outer _ _ _ _ _
  · simp only [resolve, hg]
    simp [go_sem]
  · intro f' hf'; simp [Target.leads] at hf'; subst hf'; exact hFg
  · simp [invoke, go_sem, eg]
  · have hup : ∀ {A : World} {row : Option Nat}, (∀ r, row = some r → W1.heap.size ≤ r ∧ (r < W1.heap.size + k ∨ ∃ o : Obj, A.heap[r]? = some o ∧ o.isCells = false)) →
        (∀ r, row = some r → w.heap.size ≤ r ∧ (r < w.heap.size + 2 + k ∨ ∃ o : Obj, A.heap[r]? = some o ∧ o.isCells = false)) :=
      fun hr r e => by obtain ⟨hB, ho⟩ := hr r e; rw [hs1] at hB ho; exact ⟨by omega, ho⟩
    have hkeep : ∀ {A B : World} {row : Option Nat} {b : Nat} {o : Obj}, A.grownBy B row → (∀ r, row = some r → W1.heap.size ≤ r ∧ (r < W1.heap.size + k ∨ ∃ o : Obj, A.heap[r]? = some o ∧ o.isCells = false)) →
        b < w.heap.size + 2 → A.heap[b]? = some o → B.heap[b]? = some o := fun hg hr hb h => (hg.block _ (Array.getElem?_eq_some_iff.1 h).1 (fun e => by have := (hr _ e.symm).1; rw [hs1] at this; omega)).trans h
    refine (hseq (w.heap.size + 1)
      (fun i W => I i W ∧ W.heap[w.heap.size + 1]? = some (.loop (rec .ready none)) ∧ W.heap[w.heap.size]? = some (.deferred (some [])))
      (fun i W => ∃ c, Ix c i W ∧ W.heap[w.heap.size + 1]? = some (.loop (rec .done (some c))) ∧ W.heap[w.heap.size]? = some (.deferred (some [])))
      W1 hb1 hs1
      (fun s A B row hs hg' hr => ⟨hI s A B row hs.1 hg' (hup hr), hkeep hg' hr (by omega) hs.2.1, hkeep hg' hr (by omega) hs.2.2⟩)
      (fun s A B row hs hg' hr => by
        obtain ⟨c, hc, hl, hk⟩ := hs
        exact ⟨c, hIx c s A B row hc hg' (hup hr), hkeep hg' hr (by omega) hl, hkeep hg' hr (by omega) hk⟩)
      ?_ ⟨hI1, hL1, hK1⟩).mono ?_
    · rintro i x W ⟨hIi, hl, hk⟩ hgx
      have hlt : w.heap.size + 1 < W.heap.size := (Array.getElem?_eq_some_iff.1 hl).1
      have hy := run_yield (P := P) (args := encs x) hl (by rw [hrec]; exact hps x)
      rw [hrec] at hy
      refine ⟨fn, _, assign, body, hy, roundIn_of_wpIn hfn (hassign _ x W _ ?_)⟩
      clear hy
      refine ⟨_, run_beginRound hl (by rw [hrec]), ?_⟩
      have hl2 : (W.putObj (w.heap.size + 1) (.loop { rec .ready none with state := .busy })).heap[w.heap.size + 1]? = some (.loop { rec .ready none with state := .busy }) := World.putObj_heap_same hlt
      have hk2 : (W.putObj (w.heap.size + 1) (.loop { rec .ready none with state := .busy })).heap[w.heap.size]? = some (.deferred (some [])) := (World.putObj_heap_other (by omega)).trans hk
      have hsz2 : (W.putObj (w.heap.size + 1) (.loop { rec .ready none with state := .busy })).heap.size = W.heap.size := by simp [World.putObj]
      refine wpIn_mono (hbody _ i x _ (by omega) (hIp hI _ hIi (by omega) hl rfl) (hG _ _ _ _ _ _ hgx (by omega) hl rfl)) ?_
      have fin : ∀ (jump : Option Code) (W3 : World), KQ lo hi q ty (W.putObj (w.heap.size + 1) (.loop { rec .ready none with state := .busy })) W3 →
          (Instr.endRound (w.heap.size + 1) jump).run P W3 = .ok (.bool jump.isNone) (W3.putObj (w.heap.size + 1) (.loop (rec (if jump.isNone then .ready else .done) jump))) ∧
          W3.heap[w.heap.size + 1]? = some (.loop { rec .ready none with state := .busy }) ∧
          (W3.putObj (w.heap.size + 1) (.loop (rec (if jump.isNone then .ready else .done) jump))).heap[w.heap.size + 1]? = some (.loop (rec (if jump.isNone then .ready else .done) jump)) ∧
          (W3.putObj (w.heap.size + 1) (.loop (rec (if jump.isNone then .ready else .done) jump))).heap[w.heap.size]? = some (.deferred (some [])) := fun jump W3 hk3 => by
        have hl3 := (hk3.block _ (by rw [hsz2]; exact hlt) (fun h => by rcases h with h | h <;> omega)).trans hl2
        have := run_endRound (P := P) jump hl3
        rw [hrec] at this ⊢
        exact ⟨this, by rw [hrec] at hl3; exact hl3, World.putObj_heap_same (Array.getElem?_eq_some_iff.1 hl3).1, (World.putObj_heap_other (by omega)).trans ((hk3.block _ (by rw [hsz2]; omega) (fun h => by rcases h with h | h <;> omega)).trans hk2)⟩
      -- what lay outside of the caller's blocks, but for the record, lies as it lay
      have kout : ∀ (o' : Obj) (W3 : World), KQ lo hi q ty (W.putObj (w.heap.size + 1) (.loop { rec .ready none with state := .busy })) W3 →
          ∀ b, b < W.heap.size → ¬ Free lo hi q ty W b → b ≠ w.heap.size + 1 → (W3.putObj (w.heap.size + 1) o').heap[b]? = W.heap[b]? := fun o' W3 hk3 b hb ho hne =>
        (World.putObj_heap_other hne).trans ((hk3.block b (by rw [hsz2]; exact hb) (fun h => ho (h.imp id (fun ⟨k1, cs, fr, hc⟩ => ⟨k1, cs, fr, (World.putObj_heap_other hne).symm.trans hc⟩)))).trans (World.putObj_heap_other hne))
      rintro e a3 W3 hp
      cases e with
      | normal =>
        obtain ⟨hk3, hi3⟩ := hp
        obtain ⟨hr, hl3, hl4, hk4⟩ := fin none W3 hk3
        refine ⟨_, _, hr, .inl ⟨rfl, ⟨hIp hI _ hi3 (by omega) hl3 rfl, hl4, hk4⟩, ?_⟩⟩
        refine ⟨hk3.os, hk3.tape, hk3.output, by have := hk3.size; rw [hsz2] at this; simpa [World.putObj] using this, fun b hb ho => ?_⟩
        by_cases hbe : b = w.heap.size + 1
        · subst hbe; exact hl4.trans hl.symm
        · exact kout _ W3 hk3 b hb ho hbe
      | ret =>
        obtain ⟨hk3, hi3⟩ := hp
        obtain ⟨hr, hl3, hl4, hk4⟩ := fin (some .ret) W3 hk3
        exact ⟨_, _, hr, .inr ⟨rfl, ⟨.ret, hIp (hIx _) _ hi3 (by omega) hl3 rfl, hl4, hk4⟩, by have := hk3.size; rw [hsz2] at this; simpa [World.putObj] using this, fun b hb hbl hf => kout _ W3 hk3 b hbl hf (by omega)⟩⟩
      | exit id =>
        obtain ⟨hk3, hi3⟩ := hp
        obtain ⟨hr, hl3, hl4, hk4⟩ := fin (some (.exit id)) W3 hk3
        exact ⟨_, _, hr, .inr ⟨rfl, ⟨.exit id, hIp (hIx _) _ hi3 (by omega) hl3 rfl, hl4, hk4⟩, by have := hk3.size; rw [hsz2] at this; simpa [World.putObj] using this, fun b hb hbl hf => kout _ W3 hk3 b hbl hf (by omega)⟩⟩
      | goto t =>
        obtain ⟨hk3, hi3⟩ := hp
        obtain ⟨hr, hl3, hl4, hk4⟩ := fin (some (.goto t)) W3 hk3
        exact ⟨_, _, hr, .inr ⟨rfl, ⟨.goto t, hIp (hIx _) _ hi3 (by omega) hl3 rfl, hl4, hk4⟩, by have := hk3.size; rw [hsz2] at this; simpa [World.putObj] using this, fun b hb hbl hf => kout _ W3 hk3 b hbl hf (by omega)⟩⟩
      | panic ch => exact hp.elim
      | outgrown => exact hp.elim
    · rintro e W2 ⟨⟨v, rfl⟩, (⟨i, hS, hi, hl, hk⟩ | ⟨i, hSp, c, hi, hl, hk⟩)⟩
      · exact ⟨none, _, by have := run_endLoop (P := P) hl (by rw [hrec]; simp); rw [hrec] at this; exact this, hdone _ i _ (Nat.le_refl _) hS (hIp hI _ hi (by omega) hl rfl) ((World.putObj_heap_other (by omega)).trans hk)⟩
      · exact ⟨some c, _, by have := run_endLoop (P := P) hl (by rw [hrec]; simp); rw [hrec] at this; exact this, hstop _ c i _ (Nat.le_refl _) hSp (hIp (hIx c) _ hi (by omega) hl rfl) ((World.putObj_heap_other (by omega)).trans hk)⟩

end Go.Proofs.Ytdcaefgbpnjjaab

/- FallA -/
/- The iterators of the falls: slices.Values. -/
namespace Go.Proofs.Ytdcaefgbpnjjaab
open Go.RowKit Go.Shelf

attribute [local go_sem] Oper.semAt_some

/-- A number of a step. -/
abbrev Num := { x : Int // 0 ≤ x ∧ x ≤ 99 }
def nums (l : List Num) : List Int := l.map (·.1)

set_option maxRecDepth 100000 in
set_option maxHeartbeats 2000000 in
theorem values1_stops (n : Nat) (ns : List Num) (len cap lo hi n₀ bs : Nat) (ao : Option Addr) (w0 : World) (hM : len ≤ 3000) (hn0 : n₀ ≤ w0.heap.size) (h1 : bs < n₀ ∧ (bs < lo ∨ hi ≤ bs))
    (hc1 : w0.cell? ⟨bs, 0, none⟩ = some (.slice ao len cap)) (hsl : Sl w0 ao len cap (nums ns)) (hb : ∀ b off, ao = some ⟨b, off, none⟩ → 0 < len → b < n₀ ∧ (b < lo ∨ hi ≤ b)) :
    SeqStopsK Fence.wide n Try.prog 79 #[.pointer (some ⟨bs, 0, none⟩)] (fun x : Num => #[.int .i64 x.1]) (KL lo hi n₀)
      (fun xs => xs = ns) (fun pre => 1 ≤ pre.length ∧ pre <+: ns) len w0 := by
  intro l J Jx W hW _ _ hY h0
  have hd1 := (hW.cell (p := ⟨bs, 0, none⟩) (Nat.lt_of_lt_of_le h1.1 hn0)).trans hc1
  have hslW := hsl.below hW
  have hln : ns.length = len := by have := hsl.1; rw [nums, List.length_map] at this; exact this
  have Hsl := Lib.hid hslW
  have HB := Lib.hid hb
  have Hln := Lib.hid hln
  clear hW hc1 h1 hsl hslW hb hln
  refine callsIn_of_wp Try.func79 rfl trivial ?_ rfl
  simp only [Try.ntmps79, List.size_toArray, List.length_cons, List.length_nil, Nat.reduceAdd, Nat.reduceSub, Array.replicate_succ, Array.replicate_zero, List.push_toArray, List.append_toArray, List.nil_append, List.cons_append]
  gi_wp2
  gi_loopw [7] (fun i wr => ∃ k : Nat, k ≤ len ∧ i = .int .i64 k ∧ J (ns.take k) wr ∧ KL lo hi n₀ W wr)
    (fun i _ => len - (intOf i).toNat)
  case atStart => exact ⟨0, Nat.zero_le _, rfl, by rw [List.take_zero]; exact h0, KL.refl _ _ _ _⟩
  case round =>
    obtain ⟨k, hk, rfl, hJs, hnx⟩ := hrel
    have Hnx := Lib.hid hnx
    by_cases hlt : k < len
    · obtain ⟨b, off, rfl, hat⟩ := Hsl.out.2.2.2 (by omega)
      have hkn : k < ns.length := by rw [Hln.out]; exact hlt
      obtain ⟨x, hx⟩ : ∃ x, x = ns[k] := ⟨_, rfl⟩
      have hxc : W.cell? ⟨b, off + k, none⟩ = some (.int .i64 x.1) := by
        have h := hat k (by rw [nums, List.length_map]; exact hkn)
        rw [h, hx]
        simp [nums, hkn]
      have hcx : wr.cell? ⟨b, off + k, none⟩ = some (.int .i64 x.1) := hnx.cell hxc (HB.out b off rfl (by omega)).1 (HB.out b off rfl (by omega)).2
      have htk : ns.take (k + 1) = ns.take k ++ [x] := by rw [hx, List.take_succ_eq_append_getElem hkn]
      have Htk := Lib.hid htk
      obtain ⟨fn, tmps, assign, body, hy, hR⟩ := hY (ns.take k) x wr hJs (by rw [List.length_take]; omega)
      have hcap := Hsl.out.2.1
      clear hx hxc htk hnx hat hkn
      gi_wp2
      refine ⟨fun h => (by cases h), hR.mono ?_⟩
      rintro e W3 (⟨rfl, hJ3, hk3⟩ | ⟨rfl, hJx3⟩)
      · gi_wp2
        go_roundw
        case rel => exact ⟨k + 1, by omega, by simp, by rw [Htk.out]; exact hJ3, Hnx.out.trans hk3⟩
        case measure => simp [intOf]; omega
      · gi_wp2
        refine bodyPost_ret (results_none rfl _ _ _) rfl ?_
        exact ⟨⟨_, rfl⟩, .inr ⟨_, ⟨by simp, by rw [← Htk.out]; exact List.take_prefix _ _⟩, hJx3⟩⟩
    · obtain rfl : k = len := by omega
      have hall : ns.take k = ns := by rw [← Hln.out, List.take_length]
      have Hall := Lib.hid hall
      clear hnx hall
      gi_wp2
      go_end0
      exact ⟨⟨_, rfl⟩, .inl ⟨_, Hall.out, hJs⟩⟩
end Go.Proofs.Ytdcaefgbpnjjaab

/- FallM -/
/- Falls, on trees. -/
namespace Go.Proofs.Ytdcaefgbpnjjaab
namespace T

/-- Behind these numbers the ordinal is u, and these have come. -/
inductive RunL (t : T) : List Int → T → List T → Prop
  | nil : RunL t [] t []
  | snoc {s : List Int} {u : T} {l : List T} {v : Int} : RunL t s u l → u ≠ z → vldB (u.step v).enc = true → RunL t (s ++ [v]) (u.step v) (l ++ [u.step v])

theorem RunL.fall {t : T} {s : List Int} {u : T} {l : List T} (h : RunL t s u l) (rest : List Int) : T.fall (s ++ rest) t = (T.fall rest u).map (fun m => l ++ m) := by
  induction h generalizing rest with
  | nil => simp
  | @snoc s u l v h1 h2 h3 ih =>
    rw [List.append_assoc, ih, List.singleton_append, fall_s v rest h2, if_pos h3, Option.map_map]
    congr 1
    funext m
    simp
theorem RunL.unique {t : T} {s : List Int} {u u' : T} {l l' : List T} (h : RunL t s u l) (h' : RunL t s u' l') : u = u' ∧ l = l' := by
  induction h generalizing u' l' with
  | nil =>
    generalize hs : ([] : List Int) = s at h'
    cases h' with
    | nil => exact ⟨rfl, rfl⟩
    | snoc _ _ _ => simp at hs
  | @snoc s u l v h1 h2 h3 ih =>
    generalize hs : s ++ [v] = s' at h'
    cases h' with
    | nil => simp at hs
    | @snoc s2 u2 l2 v2 k1 k2 k3 =>
      obtain ⟨e1, e2⟩ := List.append_inj' hs rfl
      subst e1
      cases e2
      obtain ⟨e3, e4⟩ := ih k1
      subst e3 e4
      exact ⟨rfl, rfl⟩
theorem RunL.len {t : T} {s : List Int} {u : T} {l : List T} (h : RunL t s u l) : l.length = s.length := by
  induction h with
  | nil => rfl
  | snoc _ _ _ ih => simp [ih]

/-- OrdFall, on rows. -/
noncomputable def fallP (xs ns : List Int) : Option (List T) := open Classical in if vldB xs = true ∧ ns.length ≤ 3000 ∧ (∀ v ∈ ns, 0 ≤ v ∧ v ≤ 99) then fall ns (of xs) else none

/-- Each is less than the one before. -/
def Desc : T → List T → Prop
  | _, [] => True
  | t, u :: l => u.cmp t = -1 ∧ Desc u l
theorem fall_desc : ∀ {ns : List Int} {t : T} {l : List T}, fall ns t = some l → Desc t l ∧ l.length ≤ ns.length ∧ ∀ u ∈ l, vldB u.enc = true
  | ns, z, l, h => by rw [fall_z] at h; cases h; exact ⟨trivial, Nat.zero_le _, fun u hu => by cases hu⟩
  | [], c n e r, l, h => by rw [fall_nil] at h; cases h; exact ⟨trivial, Nat.zero_le _, fun u hu => by cases hu⟩
  | k :: ks, c n e r, l, h => by
    rw [fall_s k ks (by simp)] at h
    split at h
    · rename_i hv
      cases hd : fall ks ((c n e r).step k) with
      | none => rw [hd] at h; cases h
      | some m =>
        rw [hd] at h
        simp only [Option.map_some, Option.some.injEq] at h
        subst h
        obtain ⟨h1, h2, h3⟩ := fall_desc hd
        refine ⟨⟨step_lt k (by simp), h1⟩, by simp; omega, fun u hu => ?_⟩
        rcases List.mem_cons.1 hu with rfl | hu
        · exact hv
        · exact h3 u hu
    · cases h

end T
end Go.Proofs.Ytdcaefgbpnjjaab

/- DownB -/
/- The iterators of the steps down: 'stepsFrom'. -/
namespace Go.Proofs.Ytdcaefgbpnjjaab
open Go.RowKit Go.Shelf

attribute [local go_sem] Oper.semAt_some

namespace T
/-- So many steps down. -/
def it (v : Int) (t : T) : Nat → T
  | 0 => t
  | i + 1 => (it v t i).step v
/-- All ordinals so far are valid. -/
def VU (v : Int) (t : T) (i : Nat) : Prop := ∀ j, j ≤ i → vldB (it v t j).enc = true
/-- None before is 0. -/
def NZ (v : Int) (t : T) (i : Nat) : Prop := ∀ j, j < i → it v t j ≠ z
theorem VU.snoc {v : Int} {t : T} {i : Nat} (h : VU v t i) (h' : vldB (it v t (i + 1)).enc = true) : VU v t (i + 1) := fun j hj => by
  rcases Nat.lt_or_ge j (i + 1) with h1 | h1
  · exact h j (by omega)
  · obtain rfl : j = i + 1 := by omega
    exact h'
theorem NZ.snoc {v : Int} {t : T} {i : Nat} (h : NZ v t i) (h' : it v t i ≠ z) : NZ v t (i + 1) := fun j hj => by
  rcases Nat.lt_or_ge j i with h1 | h1
  · exact h j h1
  · obtain rfl : j = i := by omega
    exact h'
end T

theorem grown_of_below {w w' : World} (h : Below w.heap.size w w') (row : Option Nat) : w.grownBy w' row := ⟨h.os, h.tape, h.output, h.size, fun k hk _ => h.block k hk⟩

/-- What the iterator hands over: the row of the next ordinal, and whether it is valid. -/
abbrev Handed := Option Addr × Nat × Nat × Bool
def encsH (x : Handed) : Array Value := #[.slice x.1 x.2.1 x.2.2.1, .bool x.2.2.2]
def GH (v : Int) (t : T) (M rb i : Nat) (x : Handed) (W : World) : Prop :=
  i < M ∧ T.VU v t i ∧ T.it v t i ≠ .z ∧ x.2.1 = (T.fit (T.it v t (i + 1))).length ∧ x.2.2.2 = T.vldB (T.it v t (i + 1)).enc ∧ W.ownsRow rb 3 1 (.slice x.1 x.2.1 x.2.2.1) x.2.1 (ints (T.fit (T.it v t (i + 1))))
def SH (v : Int) (t : T) (M m : Nat) : Prop := m ≤ M ∧ T.NZ v t m ∧ (m = M ∨ T.it v t m = .z ∨ T.vldB (T.it v t m).enc = false)
def SpH (v : Int) (t : T) (M m : Nat) : Prop := 1 ≤ m ∧ m ≤ M ∧ T.VU v t (m - 1) ∧ T.NZ v t m

/-- Between two rounds of the iterator's own loop. -/
def InI (v : Int) (t : T) (lo hi B l : Nat) (J : Nat → World → Prop) (W2 : World) (pre : List Unit) (W : World) : Prop :=
  J pre.length W ∧ T.VU v t pre.length ∧ T.NZ v t pre.length ∧ Boxed W B 78 (.func (.yield l) #[] #[]) ∧ KL lo hi B W2 W ∧
    ∃ bb off c, Boxed W (B + 1) 23 (.slice (some ⟨bb, off, none⟩) (T.it v t pre.length).enc.length c) ∧ (T.it v t pre.length).enc.length ≤ c ∧ c ≤ maxLen ∧ At W bb off (T.it v t pre.length).enc ∧ (bb < lo ∨ hi ≤ bb)
def InX (v : Int) (t : T) (M : Nat) (J Jx : Nat → World → Prop) (c : Code) (_ : List Unit) (W : World) : Prop :=
  c = .ret ∧ ((∃ i, SH v t M i ∧ J i W) ∨ (∃ i, SpH v t M i ∧ Jx i W))

set_option maxRecDepth 100000 in
set_option maxHeartbeats 4000000 in
theorem stepsFrom1_seq (n : Nat) (v : Int) (hv0 : 0 ≤ v) (hv1 : v ≤ 99) (M lo hi rb bo bn b1 b2 bb off len cap : Nat) (t : T) (w0 : World) (hn : 4 ≤ n) (hM : M ≤ 3000) (hhi : hi ≤ w0.heap.size) (hrb : rb ≤ w0.heap.size + 4)
    (ho : bo < w0.heap.size ∧ (bo < lo ∨ hi ≤ bo)) (hbn : bn < w0.heap.size ∧ (bn < lo ∨ hi ≤ bn)) (h1 : b1 < w0.heap.size ∧ (b1 < lo ∨ hi ≤ b1)) (h2 : b2 < w0.heap.size ∧ (b2 < lo ∨ hi ≤ b2)) (hbb : bb < lo ∨ hi ≤ bb)
    (hco : w0.cell? ⟨bo, 0, none⟩ = some (.slice (some ⟨bb, off, none⟩) len cap)) (hcn : w0.cell? ⟨bn, 0, none⟩ = some (.func (.func 80) #[] #[.pointer (some ⟨b1, 0, none⟩), .pointer (some ⟨b2, 0, none⟩)]))
    (hc1 : w0.cell? ⟨b1, 0, none⟩ = some (.int .i64 M)) (hc2 : w0.cell? ⟨b2, 0, none⟩ = some (.int .i64 v))
    (hl : len = t.enc.length) (hlc : len ≤ cap) (hcm : cap ≤ maxLen) (hat : At w0 bb off t.enc) (hvt : T.vldB t.enc = true) :
    SeqX Fence.wide n Try.prog 78 #[.pointer (some ⟨bo, 0, none⟩), .pointer (some ⟨bn, 0, none⟩)] encsH 2 lo hi (GH v t M rb) (SH v t M) (SpH v t M) w0 := by
  intro l J Jx W hW hW2s hJ hJx hY h0
  have hBs : w0.heap.size ≤ W.heap.size := hW.size
  have hdo := (hW.cell (p := ⟨bo, 0, none⟩) ho.1).trans hco
  have hdn := (hW.cell (p := ⟨bn, 0, none⟩) hbn.1).trans hcn
  have hd1 := (hW.cell (p := ⟨b1, 0, none⟩) h1.1).trans hc1
  have hd2 := (hW.cell (p := ⟨b2, 0, none⟩) h2.1).trans hc2
  have hatW : At W bb off t.enc := hat.below hW (hat.lt (T.enc_ne t))
  have hboW : bo < W.heap.size := Nat.lt_of_lt_of_le ho.1 hBs
  have hbnW : bn < W.heap.size := Nat.lt_of_lt_of_le hbn.1 hBs
  have hdo1 : (W.alloc (.cells #[.func (.yield l) #[] #[]] 78)).cell? ⟨bo, 0, none⟩ = some (.slice (some ⟨bb, off, none⟩) len cap) := (World.cell?_alloc_past _ _ _ hboW).trans hdo
  have hdn2 : ((W.alloc (.cells #[.func (.yield l) #[] #[]] 78)).alloc (.cells #[.slice (some ⟨bb, off, none⟩) len cap] 23)).cell? ⟨bn, 0, none⟩ = some (.func (.func 80) #[] #[.pointer (some ⟨b1, 0, none⟩), .pointer (some ⟨b2, 0, none⟩)]) := (World.cell?_alloc_past _ _ _ (by simp; omega)).trans ((World.cell?_alloc_past _ _ _ hbnW).trans hdn)
  have HL := Lib.hid hl
  have HVT := Lib.hid hvt
  have HATW := Lib.hid hatW
  have HJ := Lib.hid hJ
  have HJx := Lib.hid hJx
  have HY := Lib.hid hY
  have HO1 := Lib.hid h1
  have HO2 := Lib.hid h2
  have H0 := Lib.hid h0
  clear hl hvt hat hatW hJ hJx hY h0 hco hcn hc1 hc2 hW
  refine callsIn_of_wp_marks Try.func78 rfl trivial ?_ rfl
  simp only [Try.ntmps78, List.size_toArray, List.length_cons, List.length_nil, Nat.reduceAdd, Nat.reduceSub, Array.replicate_succ, Array.replicate_zero, List.push_toArray, List.append_toArray, List.nil_append, List.cons_append]
  gi_wp2
  obtain ⟨W2, hW2⟩ : ∃ W2, W2 = ((W.alloc (.cells #[.func (.yield l) #[] #[]] 78)).alloc (.cells #[.slice (some ⟨bb, off, none⟩) len cap] 23)) := ⟨_, rfl⟩
  rw [← hW2]
  have hs2 : W2.heap.size = W.heap.size + 2 := by rw [hW2]; simp
  have hbx1 : Boxed W2 W.heap.size 78 (.func (.yield l) #[] #[]) := by rw [hW2]; exact (Boxed.new W _ _).alloc _
  have hbx2 : Boxed W2 (W.heap.size + 1) 23 (.slice (some ⟨bb, off, none⟩) len cap) := by
    have h := Boxed.new (W.alloc (.cells #[.func (.yield l) #[] #[]] 78)) 23 (.slice (some ⟨bb, off, none⟩) len cap)
    rw [World.size_alloc] at h
    rw [hW2]; exact h
  have hbW : Below W.heap.size W W2 := by rw [hW2]; exact ((Below.refl _ _).alloc (Nat.le_refl _) _).alloc (by simp) _
  have hd1' := (hbW.cell (p := ⟨b1, 0, none⟩) (Nat.lt_of_lt_of_le HO1.out.1 hBs)).trans hd1
  have hd2' := (hbW.cell (p := ⟨b2, 0, none⟩) (Nat.lt_of_lt_of_le HO2.out.1 hBs)).trans hd2
  have hJ2 : J 0 W2 := by
    rw [hW2]
    refine HJ.out 0 _ _ none (HJ.out 0 _ _ none H0.out (World.grownBy_alloc W _ none) (fun r e => by cases e)) (World.grownBy_alloc _ _ none) (fun r e => by cases e)
  have hst := repeated1_stops (n - 1) v M lo hi W.heap.size b1 b2 W2 hM (by omega) ⟨Nat.lt_of_lt_of_le HO1.out.1 hBs, HO1.out.2⟩ ⟨Nat.lt_of_lt_of_le HO2.out.1 hBs, HO2.out.2⟩ hd1' hd2'
  have hcap : t.enc.length ≤ cap := by rw [← HL.out]; exact hlc
  have hbx3 : Boxed W2 (W.heap.size + 1) 23 (.slice (some ⟨bb, off, none⟩) t.enc.length cap) := by rw [← HL.out]; exact hbx2
  have hvu : T.VU v t 0 := fun j hj => by
    obtain rfl : j = 0 := by omega
    exact HVT.out
  have hnz : T.NZ v t 0 := fun j hj => by omega
  have h00 : InI v t lo hi W.heap.size l J W2 [] W2 := ⟨hJ2, hvu, hnz, hbx1, KL.refl _ _ _ _, bb, off, cap, hbx3, hcap, hcm, HATW.out.below hbW (HATW.out.lt (T.enc_ne t)), hbb⟩
  clear hW2
  refine wpIn_rangeFunc_ownH rfl (by omega) (gf := 80) (lb := #[.pointer (some ⟨b1, 0, none⟩), .pointer (some ⟨b2, 0, none⟩)]) rfl trivial (enters_of Try.func80 (by kernel_rfl) rfl)
    hst KL.trans (KL.put (by omega)) (Below.refl _ _) (fun _ => rfl) (InI v t lo hi W.heap.size l J W2) (InX v t M J Jx) ?hI ?hIx h00
    (fun _ a' _ => a' = { tmps := #[.func (.yield l) #[] #[], .pointer (some ⟨bo, 0, none⟩), .pointer (some ⟨bn, 0, none⟩), .pointer (some ⟨W.heap.size, 0, none⟩), .pointer (some ⟨W.heap.size + 1, 0, none⟩), .int .i64 v, undef, undef, .slice (some ⟨bb, off, none⟩) len cap, .func (.func 80) #[] #[.pointer (some ⟨b1, 0, none⟩), .pointer (some ⟨b2, 0, none⟩)], .int .i64 v, undef, undef, undef, undef, undef, undef, undef, undef, undef, undef, undef, undef, undef, undef, undef, undef, undef, undef], defers := [] })
    (fun _ _ => ownFrom_pure _ _) ?assign ?body ?done ?stop
  case hI =>
    rintro s A C row ⟨hJa, hvu, hnz, hbxa, hkl, bb', off', c', hbxa2, hle, hm, hata, hout⟩ hg hr
    refine ⟨HJ.out _ A C row hJa hg (fun r e => by obtain ⟨k1, o, ho, hc⟩ := hr r e; exact ⟨by omega, .inr ⟨o, ho, hc⟩⟩), hvu, hnz, hbxa.kept hg (fun e => by have := (hr _ e.symm).1; omega), ?_, bb', off', c', hbxa2.kept hg (fun e => by have := (hr _ e.symm).1; omega), hle, hm, fun j hj => cell_kept (hata j hj) hg (fun r e => (hr r e).2), hout⟩
    exact ⟨Nat.le_trans hkl.1 hg.size, fun b k1 k2 k3 => (hg.block b (Nat.lt_of_lt_of_le k2 hkl.1) (fun e => by have := (hr _ e.symm).1; omega)).trans (hkl.2 b k1 k2 k3)⟩
  case hIx =>
    rintro c s A C row ⟨hc, h⟩ hg hr
    have hup : ∀ r, row = some r → W.heap.size ≤ r ∧ (r < W.heap.size + 2 ∨ ∃ o : Obj, A.heap[r]? = some o ∧ o.isCells = false) := fun r e => by obtain ⟨k1, o, ho, hc⟩ := hr r e; exact ⟨by omega, .inr ⟨o, ho, hc⟩⟩
    rcases h with ⟨i, h3, h4⟩ | ⟨i, h3, h4⟩
    · exact ⟨hc, .inl ⟨i, h3, HJ.out _ A C row h4 hg hup⟩⟩
    · exact ⟨hc, .inr ⟨i, h3, HJx.out _ A C row h4 hg hup⟩⟩
  case assign =>
    intro l' pre x W' K hi' hK
    gi_wp2
    exact hK _ W' (KeepsFrom.refl _ _) (KL.refl _ _ _ _) hi' rfl
  case body =>
    rintro l' pre x a' Wr hl' ⟨r, hr⟩ ⟨hJr, hvu, hnz, hbxr1, hkl, bb', off', c', hbxr2, hle', hm', hat', hout'⟩ rfl hlt
    obtain ⟨i, hi⟩ : ∃ i, i = pre.length := ⟨_, rfl⟩
    rw [← hi] at hJr hvu hnz hbxr2 hle' hat' hlt
    have hvi := hvu i (Nat.le_refl _)
    obtain ⟨ti, hti⟩ : ∃ ti, ti = T.it v t i := ⟨_, rfl⟩
    rw [← hti] at hbxr2 hle' hat' hvi
    have hn60 : ti.enc.length ≤ 60 := (T.vldB_true.1 hvi).1
    have hnf := T.nf_enc hvi
    have z1 := hbxr1.cell
    have z2 := hbxr2.cell
    have f2 := hbxr2.frozen
    have hpos : 0 < ti.enc.length := by rw [T.enc_len]; omega
    have ki := Lib.hid (isZero_any bb' off' ti.enc.length c' (ti.cnt : Int) Wr hpos hat'.head)
    have HNX := Lib.hid (show T.it v t (i + 1) = ti.step v by rw [hti]; rfl)
    have HI := Lib.hid hi
    have HTI := Lib.hid hti
    have HVU := Lib.hid hvu
    have HNZ := Lib.hid hnz
    have HVI := Lib.hid hvi
    have HKL := Lib.hid hkl
    have HB1 := Lib.hid hbxr1
    have HB2 := Lib.hid hbxr2
    have HAT := Lib.hid hat'
    have HJR := Lib.hid hJr
    have HNF := Lib.hid hnf
    have hWr2 : W2.heap.size ≤ Wr.heap.size := hkl.1
    clear hi hti hvu hnz hvi hkl hbxr1 hbxr2 hat' hJr hnf hr
    by_cases htz : ti = .z
    · have hz : ((ti.cnt : Int) == 0) = true := by rw [htz]; rfl
      have HTZ := Lib.hid htz
      clear htz
      gi_wp2
      refine ⟨trivial, fun h => (by cases h), (CallsIn.inRound l' (callsIn_wide.2 ki.out)).mono ?_⟩
      rintro ee wx ⟨rfl, rfl⟩
      gi_wp2
      exact ⟨KeepsFrom.refl _ _, rfl, .inl ⟨i, ⟨Nat.le_of_lt hlt, HNZ.out, .inr (.inl (by rw [← HTI.out]; exact HTZ.out))⟩, HJR.out⟩⟩
    · have hz : ((ti.cnt : Int) == 0) = false := by
        cases ti with
        | z => exact absurd rfl htz
        | c q f u => simp [T.cnt]; omega
      have HTZ := Lib.hid htz
      have kd := Lib.hid (stepDown_any v hv0 hv1 bb' off' ti.enc.length c' ti Wr rfl hn60 hle' hm' HAT.out HNF.out)
      obtain ⟨nr, hnr⟩ : ∃ nr, nr = T.fit (ti.step v) := ⟨_, rfl⟩
      obtain ⟨no, hno⟩ : ∃ no, no = T.vldB (ti.step v).enc := ⟨_, rfl⟩
      unfold OrdOkPost at kd
      rw [← hnr, ← hno] at kd
      have Hnr := Lib.hid hnr
      have Hno := Lib.hid hno
      clear htz hnr hno
      gi_wp2
      refine ⟨trivial, fun h => (by cases h), (CallsIn.inRound l' (callsIn_wide.2 ki.out)).mono ?_⟩
      rintro ee wx ⟨rfl, rfl⟩
      gi_wp2
      refine ⟨trivial, fun h => (by cases h), (CallsIn.inRound l' (callsIn_wide.2 kd.out)).mono ?_⟩
      rintro ee w1 ⟨a2, c2, rfl, ho2, hb2⟩
      have hlB : W.heap.size < Wr.heap.size := by omega
      have hlB1 : W.heap.size + 1 < Wr.heap.size := by omega
      have y1 := (hb2.cell (p := ⟨W.heap.size, 0, none⟩) hlB).trans z1
      have hJ1 : J i w1 := HJ.out i Wr w1 none HJR.out (grown_of_below hb2 none) (fun r e => by cases e)
      have hG1 : GH v t M rb i (a2, nr.length, c2, no) w1 := ⟨hlt, HVU.out, by rw [← HTI.out]; exact HTZ.out, by rw [HNX.out, ← Hnr.out], by rw [HNX.out]; exact Hno.out, by
        rw [HNX.out, ← Hnr.out]
        exact Joins.ownsRow_le (base' := rb) ho2 (by omega)⟩
      obtain ⟨fn, tmps, assign, body, hy, hR⟩ := YieldAt.wide (m := n - 1 - 1 - 1) (HY.out i (a2, nr.length, c2, no) w1 hJ1 hG1)
      dsimp only [encsH] at hy
      have Ho2 := Lib.hid ho2
      have Hb2 := Lib.hid hb2
      have HG1 := Lib.hid hG1
      clear ho2 hb2 hJ1 hG1
      gi_wp2
      refine ⟨fun h => (by cases h), hR.mono ?_⟩
      have hs1 := Hb2.out.size
      rintro e W' (⟨rfl, hJ', hk⟩ | ⟨rfl, hJx', hsz, hk⟩)
      · have hs' := hk.size
        have hkf : KeepsFrom (W.heap.size + 2) Wr W' := ⟨by omega, fun b o k1 k2 _ => by
          have k3 := (Array.getElem?_eq_some_iff.1 k2).1
          exact (hk.block b (by omega) (by omega)).trans ((Hb2.out.block b k3).trans k2)⟩
        have hkl' : KL lo hi W.heap.size Wr W' := ⟨by omega, fun b k1 k2 k3 => (hk.block b (by omega) k3).trans (Hb2.out.block b k2)⟩
        have hJ'' : J (i + 1) W' := hJ'
        have hbX1 : Boxed W' W.heap.size 78 (.func (.yield l) #[] #[]) := (hk.block W.heap.size (by omega) (by omega)).trans ((Hb2.out.block W.heap.size hlB).trans HB1.out)
        have hbX2 : Boxed W' (W.heap.size + 1) 23 (.slice (some ⟨bb', off', none⟩) ti.enc.length c') := (hk.block (W.heap.size + 1) (by omega) (by omega)).trans ((Hb2.out.block (W.heap.size + 1) hlB1).trans HB2.out)
        have Hkf := Lib.hid hkf
        have Hkl := Lib.hid hkl'
        have HJ'' := Lib.hid hJ''
        have HbX1 := Lib.hid hbX1
        have HbX2 := Lib.hid hbX2
        have Hk := Lib.hid hk
        clear hkf hkl' hJ'' hJ' hbX1 hk
        cases hno2 : no with
        | false =>
          have Hno2 := Lib.hid hno2
          clear hno2 hbX2
          gi_wp2
          exact ⟨by rw [hs2]; exact Hkf.out, rfl, .inl ⟨i + 1, ⟨by omega, HNZ.out.snoc (by rw [← HTI.out]; exact HTZ.out), .inr (.inr (by rw [HNX.out, ← Hno.out, Hno2.out]))⟩, HJ''.out⟩⟩
        | true =>
          have Hno2 := Lib.hid hno2
          have q2 := hbX2.cell
          have q3 := hbX2.frozen
          clear hno2 hbX2
          gi_wp2
          have hvn : T.vldB (ti.step v).enc = true := by rw [← Hno.out, Hno2.out]
          have hfe : nr = (ti.step v).enc := by rw [Hnr.out, T.fit, if_pos hvn]
          have ho2 := Ho2.out
          rw [hfe] at ho2
          obtain ⟨g2, rfl, hg2, hatn, hcn, hcmn⟩ := own_rowT ho2
          have hg2l : g2 < w1.heap.size := hatn.lt (T.enc_ne _)
          have hg2n : g2 ≠ W.heap.size + 1 := by omega
          have hat2 : At W' g2 0 (ti.step v).enc := fun j hj => (World.cell?_of_block (Hk.out.block g2 hg2l (by omega))).trans (hatn j hj)
          refine ⟨⟨Nat.le_trans Hkf.out.size (grownBy_setCell' _ _ _).size, fun b o k1 k2 k3 => ((grownBy_setCell' _ _ _).block b (by have := (Array.getElem?_eq_some_iff.1 k2).1; omega) (by intro e; cases e; omega)).trans (Hkf.out.same b o (by omega) k2 k3)⟩,
            Hkl.out.trans ⟨(grownBy_setCell' _ _ _).size, fun b k1 k2 _ => (grownBy_setCell' _ _ _).block b k2 (by intro e; cases e; omega)⟩, ?_⟩
          have hlen : (pre ++ [x]).length = i + 1 := by rw [HI.out]; simp
          unfold InI
          rw [hlen]
          refine ⟨HJ.out (i + 1) W' _ (some (W.heap.size + 1)) HJ''.out (grownBy_setCell' _ _ _) (fun r e => by cases e; exact ⟨by omega, .inl (by omega)⟩), HVU.out.snoc (by rw [HNX.out]; exact hvn), HNZ.out.snoc (by rw [← HTI.out]; exact HTZ.out),
            HbX1.out.other (by omega) _, (HKL.out.trans Hkl.out).trans ⟨(grownBy_setCell' _ _ _).size, fun b k1 k2 _ => (grownBy_setCell' _ _ _).block b k2 (by intro e; cases e; omega)⟩, g2, 0, c2, ?_, ?_, hcmn, ?_, by omega⟩
          · rw [HNX.out, ← hfe]; exact HbX2.out.set _
          · rw [HNX.out]; exact hcn
          · rw [HNX.out]
            intro j hj
            exact (World.cell?_of_block ((grownBy_setCell' _ _ _).block g2 (by omega) (by intro e; cases e; exact hg2n rfl))).trans (hat2 j hj)
      · gi_wp2
        exact ⟨⟨by omega, fun b o k1 k2 _ => by
          have k3 := (Array.getElem?_eq_some_iff.1 k2).1
          exact (hk b (by omega) (by omega)).trans ((Hb2.out.block b k3).trans k2)⟩, rfl, .inr ⟨i + 1, ⟨by omega, by omega, HVU.out, HNZ.out.snoc (by rw [← HTI.out]; exact HTZ.out)⟩, hJx'⟩⟩
  case done =>
    rintro D xs Wd hD hlen ⟨hJd, hvu, hnz, _, _, _⟩ hK
    gi_wp2
    refine ⟨by simp, .inl ⟨_, _, rfl, run_takeDeferred hK, ?_⟩⟩
    refine ⟨_, results_none rfl _ _ _, ⟨_, rfl⟩, .inl ⟨xs.length, ⟨Nat.le_of_eq hlen, hnz, .inl hlen⟩, ?_⟩⟩
    exact HJ.out _ Wd _ (some D) hJd (grownBy_putObj' Wd D _) (fun r e => by cases e; exact ⟨by omega, .inr ⟨_, hK, rfl⟩⟩)
  case stop =>
    rintro D c pre Wd hD _ ⟨rfl, h⟩ hK
    gi_wp2
    refine ⟨by simp, .inl ⟨_, _, rfl, run_takeDeferred hK, ?_⟩⟩
    have hup : ∀ r, some D = some r → W.heap.size ≤ r ∧ (r < W.heap.size + 2 ∨ ∃ o : Obj, Wd.heap[r]? = some o ∧ o.isCells = false) := fun r e => by cases e; exact ⟨by omega, .inr ⟨_, hK, rfl⟩⟩
    refine ⟨_, results_none rfl _ _ _, ⟨_, rfl⟩, ?_⟩
    rcases h with ⟨i, h3, h4⟩ | ⟨i, h3, h4⟩
    · exact .inl ⟨i, h3, HJ.out _ Wd _ (some D) h4 (grownBy_putObj' Wd D _) hup⟩
    · exact .inr ⟨i, h3, HJx.out _ Wd _ (some D) h4 (grownBy_putObj' Wd D _) hup⟩
end Go.Proofs.Ytdcaefgbpnjjaab

/- FallB -/
/- The iterator 'stepsFrom' over a list of numbers. -/
namespace Go.Proofs.Ytdcaefgbpnjjaab
open Go.RowKit Go.Shelf

attribute [local go_sem] Oper.semAt_some

theorem T.RunL.vld {t u : T} {s : List Int} {l : List T} (ht : T.vldB t.enc = true) (h : T.RunL t s u l) : T.vldB u.enc = true := by
  cases h with
  | nil => exact ht
  | snoc _ _ h => exact h

/-- What the iterator hands over, and the number of its step. -/
abbrev HandedF := Handed × Int
def encsF (x : HandedF) : Array Value := encsH x.1
def GF (t : T) (M rb : Nat) (s : List Int) (x : HandedF) (W : World) : Prop :=
  s.length < M ∧ ∃ u l, T.RunL t s u l ∧ u ≠ .z ∧ x.1.2.1 = (T.fit (u.step x.2)).length ∧ x.1.2.2.2 = T.vldB (u.step x.2).enc ∧ W.ownsRow rb 3 1 (.slice x.1.1 x.1.2.1 x.1.2.2.1) x.1.2.1 (ints (T.fit (u.step x.2)))
def SF0 (t : T) (s : List Int) : Prop := (∃ l, T.RunL t s .z l) ∨ (∃ s' v u l, s = s' ++ [v] ∧ T.RunL t s' u l ∧ u ≠ .z ∧ T.vldB (u.step v).enc = false)
def SpF0 (t : T) (s : List Int) : Prop := ∃ s' v u l, s = s' ++ [v] ∧ T.RunL t s' u l ∧ u ≠ .z
def SF (t : T) (ns s : List Int) : Prop := s <+: ns ∧ (SF0 t s ∨ (s = ns ∧ ∃ u l, T.RunL t s u l))
def SpF (t : T) (ns s : List Int) : Prop := s <+: ns ∧ SpF0 t s
def nxF (s : List Int) (x : HandedF) : List Int := s ++ [x.2]

theorem nums_snoc (p : List Num) (x : Num) : nums (p ++ [x]) = nums p ++ [x.1] := by simp [nums]
theorem nums_prefix {p q : List Num} (h : p <+: q) : nums p <+: nums q := by
  obtain ⟨r, rfl⟩ := h
  exact ⟨nums r, by simp [nums]⟩

/-- Between two rounds of the iterator's own loop. -/
def InF (t : T) (lo hi B l : Nat) (J : List Int → World → Prop) (W2 : World) (pre : List Num) (W : World) : Prop :=
  J (nums pre) W ∧ (∃ u ls, T.RunL t (nums pre) u ls ∧ 
    ∃ bb off c, Boxed W (B + 1) 23 (.slice (some ⟨bb, off, none⟩) u.enc.length c) ∧ u.enc.length ≤ c ∧ c ≤ maxLen ∧ At W bb off u.enc ∧ (bb < lo ∨ hi ≤ bb) ∧ (B ≤ bb → ∃ cur, W.heap[bb]? = some (.cells cur 3 (0, 0)))) ∧
    Boxed W B 78 (.func (.yield l) #[] #[]) ∧ KL lo hi B W2 W
def InXF (t : T) (J Jx : List Int → World → Prop) (c : Code) (pre : List Num) (W : World) : Prop :=
  c = .ret ∧ ((∃ s, s <+: nums pre ∧ SF0 t s ∧ J s W) ∨ (∃ s, s <+: nums pre ∧ SpF0 t s ∧ Jx s W))

set_option maxRecDepth 100000 in
set_option maxHeartbeats 4000000 in
theorem stepsFrom1_seqL (n : Nat) (ns : List Num) (lo hi q rb bo bn bs bb off len cap nlen ncap : Nat) (ao : Option Addr) (t : T) (w0 : World) (hn : 4 ≤ n) (hM : nlen ≤ 3000) (hhi : hi ≤ w0.heap.size) (hrb : rb ≤ w0.heap.size + 4) (hq : w0.heap.size + 4 ≤ q)
    (ho : bo < w0.heap.size ∧ (bo < lo ∨ hi ≤ bo)) (hbn : bn < w0.heap.size ∧ (bn < lo ∨ hi ≤ bn)) (h1 : bs < w0.heap.size ∧ (bs < lo ∨ hi ≤ bs)) (hbb : bb < lo ∨ hi ≤ bb)
    (hco : w0.cell? ⟨bo, 0, none⟩ = some (.slice (some ⟨bb, off, none⟩) len cap)) (hcn : w0.cell? ⟨bn, 0, none⟩ = some (.func (.func 79) #[] #[.pointer (some ⟨bs, 0, none⟩)]))
    (hc1 : w0.cell? ⟨bs, 0, none⟩ = some (.slice ao nlen ncap)) (hsl : Sl w0 ao nlen ncap (nums ns)) (hnb : ∀ b off, ao = some ⟨b, off, none⟩ → 0 < nlen → b < w0.heap.size ∧ (b < lo ∨ hi ≤ b))
    (hl : len = t.enc.length) (hlc : len ≤ cap) (hcm : cap ≤ maxLen) (hat : At w0 bb off t.enc) (hvt : T.vldB t.enc = true) :
    SeqL Fence.wide n Try.prog 78 #[.pointer (some ⟨bo, 0, none⟩), .pointer (some ⟨bn, 0, none⟩)] encsF [] nxF 2 lo hi q 23 (GF t nlen rb) (SF t (nums ns)) (SpF t (nums ns)) w0 := by
  intro l J Jx W hW hW2s hJ hJx hY h0
  have hBs : w0.heap.size ≤ W.heap.size := hW.size
  have hW2a : W.heap.size ≤ w0.heap.size + 2 := Nat.le_of_eq hW2s
  have hW2b : w0.heap.size + 2 ≤ W.heap.size := Nat.le_of_eq hW2s.symm
  clear hW2s
  have hdo := (hW.cell (p := ⟨bo, 0, none⟩) ho.1).trans hco
  have hdn := (hW.cell (p := ⟨bn, 0, none⟩) hbn.1).trans hcn
  have hd1 := (hW.cell (p := ⟨bs, 0, none⟩) h1.1).trans hc1
  have hslW := hsl.below hW
  have hatW : At W bb off t.enc := hat.below hW (hat.lt (T.enc_ne t))
  have hbbW : bb < w0.heap.size := hat.lt (T.enc_ne t)
  have hboW : bo < W.heap.size := Nat.lt_of_lt_of_le ho.1 hBs
  have hbnW : bn < W.heap.size := Nat.lt_of_lt_of_le hbn.1 hBs
  have hdo1 : (W.alloc (.cells #[.func (.yield l) #[] #[]] 78)).cell? ⟨bo, 0, none⟩ = some (.slice (some ⟨bb, off, none⟩) len cap) := (World.cell?_alloc_past _ _ _ hboW).trans hdo
  have hdn2 : ((W.alloc (.cells #[.func (.yield l) #[] #[]] 78)).alloc (.cells #[.slice (some ⟨bb, off, none⟩) len cap] 23)).cell? ⟨bn, 0, none⟩ = some (.func (.func 79) #[] #[.pointer (some ⟨bs, 0, none⟩)]) := (World.cell?_alloc_past _ _ _ (by simp; omega)).trans ((World.cell?_alloc_past _ _ _ hbnW).trans hdn)
  have HL := Lib.hid hl
  have HVT := Lib.hid hvt
  have HATW := Lib.hid hatW
  have HSL := Lib.hid hslW
  have HNB := Lib.hid hnb
  have HJ := Lib.hid hJ
  have HJx := Lib.hid hJx
  have HY := Lib.hid hY
  have HO1 := Lib.hid h1
  have H0 := Lib.hid h0
  clear hl hvt hat hatW hJ hJx hY h0 hco hcn hc1 hW hsl hslW hnb
  refine callsIn_of_wp_marks Try.func78 rfl trivial ?_ rfl
  simp only [Try.ntmps78, List.size_toArray, List.length_cons, List.length_nil, Nat.reduceAdd, Nat.reduceSub, Array.replicate_succ, Array.replicate_zero, List.push_toArray, List.append_toArray, List.nil_append, List.cons_append]
  gi_wp2
  obtain ⟨W2, hW2⟩ : ∃ W2, W2 = ((W.alloc (.cells #[.func (.yield l) #[] #[]] 78)).alloc (.cells #[.slice (some ⟨bb, off, none⟩) len cap] 23)) := ⟨_, rfl⟩
  rw [← hW2]
  have hs2 : W2.heap.size = W.heap.size + 2 := by rw [hW2]; simp
  have hbx1 : Boxed W2 W.heap.size 78 (.func (.yield l) #[] #[]) := by rw [hW2]; exact (Boxed.new W _ _).alloc _
  have hbx2 : Boxed W2 (W.heap.size + 1) 23 (.slice (some ⟨bb, off, none⟩) len cap) := by
    have h := Boxed.new (W.alloc (.cells #[.func (.yield l) #[] #[]] 78)) 23 (.slice (some ⟨bb, off, none⟩) len cap)
    rw [World.size_alloc] at h
    rw [hW2]; exact h
  have hbW : Below W.heap.size W W2 := by rw [hW2]; exact ((Below.refl _ _).alloc (Nat.le_refl _) _).alloc (by simp) _
  have hd1' := (hbW.cell (p := ⟨bs, 0, none⟩) (Nat.lt_of_lt_of_le HO1.out.1 hBs)).trans hd1
  have hJ2 : J [] W2 := by
    rw [hW2]
    refine HJ.out [] _ _ none (HJ.out [] _ _ none H0.out (World.grownBy_alloc W _ none) (fun r e => by cases e)) (World.grownBy_alloc _ _ none) (fun r e => by cases e)
  have hst := values1_stops (n - 1) ns nlen ncap lo hi W.heap.size bs ao W2 hM (by omega) ⟨Nat.lt_of_lt_of_le HO1.out.1 hBs, HO1.out.2⟩ hd1' (HSL.out.below hbW) (fun b off he h0 => ⟨Nat.lt_of_lt_of_le (HNB.out b off he h0).1 hBs, (HNB.out b off he h0).2⟩)
  have hcap : t.enc.length ≤ cap := by rw [← HL.out]; exact hlc
  have hbx3 : Boxed W2 (W.heap.size + 1) 23 (.slice (some ⟨bb, off, none⟩) t.enc.length cap) := by rw [← HL.out]; exact hbx2
  have h00 : InF t lo hi W.heap.size l J W2 [] W2 := ⟨hJ2, ⟨t, [], .nil, bb, off, cap, hbx3, hcap, hcm, HATW.out.below hbW (HATW.out.lt (T.enc_ne t)), hbb, fun h => by omega⟩, hbx1, KL.refl _ _ _ _⟩
  clear hW2
  refine wpIn_rangeFunc_ownH rfl (by omega) (gf := 79) (lb := #[.pointer (some ⟨bs, 0, none⟩)]) rfl trivial (enters_of Try.func79 (by kernel_rfl) rfl)
    hst KL.trans (KL.put (by omega)) (Below.refl _ _) (fun _ => rfl) (InF t lo hi W.heap.size l J W2) (InXF t J Jx) ?hI ?hIx h00
    (fun x a' _ => a' = { tmps := #[.func (.yield l) #[] #[], .pointer (some ⟨bo, 0, none⟩), .pointer (some ⟨bn, 0, none⟩), .pointer (some ⟨W.heap.size, 0, none⟩), .pointer (some ⟨W.heap.size + 1, 0, none⟩), .int .i64 x.1, undef, undef, .slice (some ⟨bb, off, none⟩) len cap, .func (.func 79) #[] #[.pointer (some ⟨bs, 0, none⟩)], .int .i64 x.1, undef, undef, undef, undef, undef, undef, undef, undef, undef, undef, undef, undef, undef, undef, undef, undef, undef, undef], defers := [] })
    (fun _ _ => ownFrom_pure _ _) ?assign ?body ?done ?stop
  case hI =>
    rintro s A C row ⟨hJa, ⟨u, ls, hru, bb', off', c', hbxa2, hle, hm, hata, hout, hty⟩, hbxa, hkl⟩ hg hr
    refine ⟨HJ.out _ A C row hJa hg (fun r e => by obtain ⟨k1, o, ho, hc⟩ := hr r e; exact ⟨by omega, .inr ⟨o, ho, hc⟩⟩), ⟨u, ls, hru, bb', off', c', hbxa2.kept hg (fun e => by have := (hr _ e.symm).1; omega), hle, hm, fun j hj => cell_kept (hata j hj) hg (fun r e => (hr r e).2), hout, fun k => ?_⟩, hbxa.kept hg (fun e => by have := (hr _ e.symm).1; omega), ?_⟩
    · obtain ⟨cur, hcur⟩ := hty k
      refine ⟨cur, (hg.block _ (Array.getElem?_eq_some_iff.1 hcur).1 (fun e => ?_)).trans hcur⟩
      obtain ⟨_, o, ho, hc⟩ := hr _ e.symm
      rw [hcur] at ho
      cases ho
      cases hc
    · exact ⟨Nat.le_trans hkl.1 hg.size, fun b k1 k2 k3 => (hg.block b (Nat.lt_of_lt_of_le k2 hkl.1) (fun e => by have := (hr _ e.symm).1; omega)).trans (hkl.2 b k1 k2 k3)⟩
  case hIx =>
    rintro c s A C row ⟨hc, h⟩ hg hr
    have hup : ∀ r, row = some r → W.heap.size ≤ r ∧ (r < W.heap.size + 2 ∨ ∃ o : Obj, A.heap[r]? = some o ∧ o.isCells = false) := fun r e => by obtain ⟨k1, o, ho, hc⟩ := hr r e; exact ⟨by omega, .inr ⟨o, ho, hc⟩⟩
    rcases h with ⟨i, hp, h3, h4⟩ | ⟨i, hp, h3, h4⟩
    · exact ⟨hc, .inl ⟨i, hp, h3, HJ.out _ A C row h4 hg hup⟩⟩
    · exact ⟨hc, .inr ⟨i, hp, h3, HJx.out _ A C row h4 hg hup⟩⟩
  case assign =>
    intro l' pre x W' K hi' hK
    gi_wp2
    exact hK _ W' (KeepsFrom.refl _ _) (KL.refl _ _ _ _) hi' rfl
  case body =>
    rintro l' pre x a' Wr hl' ⟨r, hr⟩ ⟨hJr, ⟨ti, ls, hru, bb', off', c', hbxr2, hle', hm', hat', hout', hty'⟩, hbxr1, hkl⟩ rfl hlt
    have hvi := hru.vld HVT.out
    have hn60 : ti.enc.length ≤ 60 := (T.vldB_true.1 hvi).1
    have hnf := T.nf_enc hvi
    have z1 := hbxr1.cell
    have z2 := hbxr2.cell
    have f2 := hbxr2.frozen
    have hpos : 0 < ti.enc.length := by rw [T.enc_len]; omega
    have ki := Lib.hid (isZero_any bb' off' ti.enc.length c' (ti.cnt : Int) Wr hpos hat'.head)
    have HRU := Lib.hid hru
    have HVI := Lib.hid hvi
    have HKL := Lib.hid hkl
    have HB1 := Lib.hid hbxr1
    have HB2 := Lib.hid hbxr2
    have HAT := Lib.hid hat'
    have HJR := Lib.hid hJr
    have HNF := Lib.hid hnf
    have HLT := Lib.hid hlt
    have hWr2 : W2.heap.size ≤ Wr.heap.size := hkl.1
    obtain ⟨v, hv0, hv1, hxv⟩ : ∃ v : Int, 0 ≤ v ∧ v ≤ 99 ∧ x.1 = v := ⟨x.1, x.2.1, x.2.2, rfl⟩
    have HSN := Lib.hid (show nums (pre ++ [x]) = nums pre ++ [v] by rw [nums_snoc, hxv])
    rw [hxv]
    clear hxv hru hvi hkl hbxr1 hbxr2 hat' hJr hnf hr hlt hty'
    by_cases htz : ti = .z
    · have hz : ((ti.cnt : Int) == 0) = true := by rw [htz]; rfl
      have HTZ := Lib.hid htz
      clear htz
      gi_wp2
      refine ⟨trivial, fun h => (by cases h), (CallsIn.inRound l' (callsIn_wide.2 ki.out)).mono ?_⟩
      rintro ee wx ⟨rfl, rfl⟩
      gi_wp2
      exact ⟨KeepsFrom.refl _ _, rfl, .inl ⟨nums pre, by rw [HSN.out]; exact List.prefix_append _ _, .inl ⟨ls, by have h := HRU.out; rw [HTZ.out] at h; exact h⟩, HJR.out⟩⟩
    · have hz : ((ti.cnt : Int) == 0) = false := by
        cases ti with
        | z => exact absurd rfl htz
        | c q f u => simp [T.cnt]; omega
      have HTZ := Lib.hid htz
      have kd := Lib.hid (stepDown_any v hv0 hv1 bb' off' ti.enc.length c' ti Wr rfl hn60 hle' hm' HAT.out HNF.out)
      obtain ⟨nr, hnr⟩ : ∃ nr, nr = T.fit (ti.step v) := ⟨_, rfl⟩
      obtain ⟨no, hno⟩ : ∃ no, no = T.vldB (ti.step v).enc := ⟨_, rfl⟩
      unfold OrdOkPost at kd
      rw [← hnr, ← hno] at kd
      have Hnr := Lib.hid hnr
      have Hno := Lib.hid hno
      clear htz hnr hno
      gi_wp2
      refine ⟨trivial, fun h => (by cases h), (CallsIn.inRound l' (callsIn_wide.2 ki.out)).mono ?_⟩
      rintro ee wx ⟨rfl, rfl⟩
      gi_wp2
      refine ⟨trivial, fun h => (by cases h), (CallsIn.inRound l' (callsIn_wide.2 kd.out)).mono ?_⟩
      rintro ee w1 ⟨a2, c2, rfl, ho2, hb2⟩
      have hlB : W.heap.size < Wr.heap.size := by omega
      have hlB1 : W.heap.size + 1 < Wr.heap.size := by omega
      have y1 := (hb2.cell (p := ⟨W.heap.size, 0, none⟩) hlB).trans z1
      have hJ1 : J (nums pre) w1 := HJ.out (nums pre) Wr w1 none HJR.out (grown_of_below hb2 none) (fun r e => by cases e)
      have hG1 : GF t nlen rb (nums pre) ((a2, nr.length, c2, no), v) w1 := ⟨by rw [nums, List.length_map]; exact HLT.out, ti, ls, HRU.out, HTZ.out, by rw [← Hnr.out], Hno.out, by
        rw [← Hnr.out]
        exact Joins.ownsRow_le (base' := rb) ho2 (by omega)⟩
      obtain ⟨fn, tmps, assign, body, hy, hR⟩ := YieldAt.wide (m := n - 1 - 1 - 1) (HY.out (nums pre) ((a2, nr.length, c2, no), v) w1 hJ1 hG1)
      dsimp only [encsF, encsH] at hy
      have Ho2 := Lib.hid ho2
      have Hb2 := Lib.hid hb2
      have HG1 := Lib.hid hG1
      clear ho2 hb2 hJ1 hG1
      gi_wp2
      refine ⟨fun h => (by cases h), hR.mono ?_⟩
      have hs1 := Hb2.out.size
      have hnfree : ∀ b : Nat, b < q → (b < lo ∨ hi ≤ b) → ¬ Free lo hi q 23 w1 b := fun b k1 k2 h => by rcases h with h | h <;> omega
      have hncell : ∀ (b : Nat) (o : Obj), hi ≤ b → w1.heap[b]? = some o → o.isCells = false → ¬ Free lo hi q 23 w1 b := fun b o k1 k2 k3 h => by
        rcases h with h | ⟨_, cs, fr, h⟩
        · omega
        · rw [k2] at h
          cases h
          cases k3
      rintro e W' (⟨rfl, hJ', hk⟩ | ⟨rfl, hJx', hsz, hk⟩)
      · have hs' := hk.size
        have hkf : KeepsFrom (W.heap.size + 2) Wr W' := ⟨by omega, fun b o k1 k2 k5 => by
          have k3 := (Array.getElem?_eq_some_iff.1 k2).1
          have k4 := (Hb2.out.block b k3).trans k2
          exact (hk.block b (by omega) (hncell b o (by omega) k4 k5)).trans k4⟩
        have hkl' : KL lo hi W.heap.size Wr W' := ⟨by omega, fun b k1 k2 k3 => (hk.block b (by omega) (hnfree b (by omega) k3)).trans (Hb2.out.block b k2)⟩
        have hJ'' : J (nums pre ++ [v]) W' := hJ'
        have hbX1 : Boxed W' W.heap.size 78 (.func (.yield l) #[] #[]) := (hk.block W.heap.size (by omega) (hnfree _ (by omega) (by omega))).trans ((Hb2.out.block W.heap.size hlB).trans HB1.out)
        have hbX2 : Boxed W' (W.heap.size + 1) 23 (.slice (some ⟨bb', off', none⟩) ti.enc.length c') := (hk.block (W.heap.size + 1) (by omega) (hnfree _ (by omega) (by omega))).trans ((Hb2.out.block (W.heap.size + 1) hlB1).trans HB2.out)
        have Hkf := Lib.hid hkf
        have Hkl := Lib.hid hkl'
        have HJ'' := Lib.hid hJ''
        have HbX1 := Lib.hid hbX1
        have HbX2 := Lib.hid hbX2
        have Hk := Lib.hid hk
        clear hkf hkl' hJ'' hJ' hbX1 hk
        cases hno2 : no with
        | false =>
          have Hno2 := Lib.hid hno2
          clear hno2 hbX2
          gi_wp2
          exact ⟨by rw [hs2]; exact Hkf.out, rfl, .inl ⟨nums pre ++ [v], by rw [HSN.out]; exact List.prefix_rfl, .inr ⟨nums pre, v, ti, ls, rfl, HRU.out, HTZ.out, by rw [← Hno.out, Hno2.out]⟩, HJ''.out⟩⟩
        | true =>
          have Hno2 := Lib.hid hno2
          have q2 := hbX2.cell
          have q3 := hbX2.frozen
          clear hno2 hbX2
          gi_wp2
          have hvn : T.vldB (ti.step v).enc = true := by rw [← Hno.out, Hno2.out]
          have hfe : nr = (ti.step v).enc := by rw [Hnr.out, T.fit, if_pos hvn]
          have ho2 := Ho2.out
          rw [hfe] at ho2
          obtain ⟨g2, rfl, hg2, hatn, hcn, hcmn⟩ := own_rowT ho2
          have hty2 : ∃ cur, w1.heap[g2]? = some (.cells cur 3 (0, 0)) := by
            obtain ⟨_, ⟨h, _⟩ | ⟨g, cap', cur, h, _, h2, _⟩⟩ := ho2
            · cases h
            · cases h
              exact ⟨cur, h2⟩
          obtain ⟨cur2, hcur2⟩ := hty2
          have hg2l : g2 < w1.heap.size := hatn.lt (T.enc_ne _)
          have hg2n : g2 ≠ W.heap.size + 1 := by omega
          have hg2f : ¬ Free lo hi q 23 w1 g2 := fun h => by
            rcases h with h | ⟨_, cs, fr, h⟩
            · omega
            · rw [hcur2] at h
              cases h
          have hb2' := Hk.out.block g2 hg2l hg2f
          have hat2 : At W' g2 0 (ti.step v).enc := fun j hj => (World.cell?_of_block hb2').trans (hatn j hj)
          refine ⟨⟨Nat.le_trans Hkf.out.size (grownBy_setCell' _ _ _).size, fun b o k1 k2 k3 => ((grownBy_setCell' _ _ _).block b (by have := (Array.getElem?_eq_some_iff.1 k2).1; omega) (by intro e; cases e; omega)).trans (Hkf.out.same b o (by omega) k2 k3)⟩,
            Hkl.out.trans ⟨(grownBy_setCell' _ _ _).size, fun b k1 k2 _ => (grownBy_setCell' _ _ _).block b k2 (by intro e; cases e; omega)⟩, ?_⟩
          unfold InF
          rw [HSN.out]
          refine ⟨HJ.out (nums pre ++ [v]) W' _ (some (W.heap.size + 1)) HJ''.out (grownBy_setCell' _ _ _) (fun r e => by cases e; exact ⟨by omega, .inl (by omega)⟩), ⟨ti.step v, ls ++ [ti.step v], .snoc HRU.out HTZ.out hvn, g2, 0, c2, ?_, hcn, hcmn, ?_, by omega, fun _ => ⟨cur2, ?_⟩⟩,
            HbX1.out.other (by omega) _, (HKL.out.trans Hkl.out).trans ⟨(grownBy_setCell' _ _ _).size, fun b k1 k2 _ => (grownBy_setCell' _ _ _).block b k2 (by intro e; cases e; omega)⟩⟩
          · rw [← hfe]; exact HbX2.out.set _
          · intro j hj
            exact (World.cell?_of_block ((grownBy_setCell' _ _ _).block g2 (by omega) (by intro e; cases e; exact hg2n rfl))).trans (hat2 j hj)
          · exact ((grownBy_setCell' _ _ _).block g2 (by omega) (by intro e; cases e; exact hg2n rfl)).trans (hb2'.trans hcur2)
      · gi_wp2
        exact ⟨⟨by omega, fun b o k1 k2 k5 => by
          have k3 := (Array.getElem?_eq_some_iff.1 k2).1
          have k4 := (Hb2.out.block b k3).trans k2
          exact (hk b (by omega) (by omega) (hncell b o (by omega) k4 k5)).trans k4⟩, rfl, .inr ⟨nums pre ++ [v], by rw [HSN.out]; exact List.prefix_rfl, ⟨nums pre, v, ti, ls, rfl, HRU.out, HTZ.out⟩, hJx'⟩⟩
  case done =>
    rintro D xs Wd hD hlen ⟨hJd, ⟨u, ls, hru, _⟩, _, _⟩ hK
    gi_wp2
    refine ⟨by simp, .inl ⟨_, _, rfl, run_takeDeferred hK, ?_⟩⟩
    refine ⟨_, results_none rfl _ _ _, ⟨_, rfl⟩, .inl ⟨nums xs, ⟨by rw [hlen]; exact List.prefix_rfl, .inr ⟨by rw [hlen], u, ls, hru⟩⟩, ?_⟩⟩
    exact HJ.out _ Wd _ (some D) hJd (grownBy_putObj' Wd D _) (fun r e => by cases e; exact ⟨by omega, .inr ⟨_, hK, rfl⟩⟩)
  case stop =>
    rintro D c pre Wd hD hpre ⟨rfl, h⟩ hK
    gi_wp2
    refine ⟨by simp, .inl ⟨_, _, rfl, run_takeDeferred hK, ?_⟩⟩
    have hup : ∀ r, some D = some r → W.heap.size ≤ r ∧ (r < W.heap.size + 2 ∨ ∃ o : Obj, Wd.heap[r]? = some o ∧ o.isCells = false) := fun r e => by cases e; exact ⟨by omega, .inr ⟨_, hK, rfl⟩⟩
    refine ⟨_, results_none rfl _ _ _, ⟨_, rfl⟩, ?_⟩
    rcases h with ⟨i, hp, h3, h4⟩ | ⟨i, hp, h3, h4⟩
    · exact .inl ⟨i, ⟨hp.trans (nums_prefix hpre.2), .inl h3⟩, HJ.out _ Wd _ (some D) h4 (grownBy_putObj' Wd D _) hup⟩
    · exact .inr ⟨i, ⟨hp.trans (nums_prefix hpre.2), h3⟩, HJx.out _ Wd _ (some D) h4 (grownBy_putObj' Wd D _) hup⟩
end Go.Proofs.Ytdcaefgbpnjjaab

/- DownM -/
/- Steps down until 0: what the loop answers. -/
namespace Go.Proofs.Ytdcaefgbpnjjaab
namespace T

theorem it_shift (v : Int) (t : T) (i : Nat) : it v (t.step v) i = it v t (i + 1) := by
  induction i with
  | zero => rfl
  | succ i ih => rw [it, ih]; rfl
/-- How many of the first steps are from an ordinal of the kind 1. -/
def ones (v : Int) (t : T) : Nat → Nat
  | 0 => 0
  | m + 1 => ones v t m + if (it v t m).kind = 1 then 1 else 0
theorem ones_le (v : Int) (t : T) (m : Nat) : ones v t m ≤ m := by
  induction m with
  | zero => exact Nat.le_refl _
  | succ m ih => rw [ones]; split <;> omega
theorem ones_shift (v : Int) (t : T) (m : Nat) : ones v t (m + 1) = (if t.kind = 1 then 1 else 0) + ones v (t.step v) m := by
  induction m with
  | zero => by_cases h : t.kind = 1 <;> simp [ones, it, h]
  | succ m ih => rw [ones, ih, ones, it_shift]; omega
theorem VU.tail {v : Int} {t : T} {m : Nat} (h : VU v t (m + 1)) : VU v (t.step v) m := fun j hj => by rw [it_shift]; exact h (j + 1) (by omega)
theorem NZ.tail {v : Int} {t : T} {m : Nat} (h : NZ v t (m + 1)) : NZ v (t.step v) m := fun j hj => by rw [it_shift]; exact h (j + 1) (by omega)

theorem down_end {v : Int} : ∀ {m g : Nat} {t : T}, VU v t m → NZ v t m → it v t m = z → m ≤ g → down v g t = some (m, ones v t m)
  | 0, g, t, _, _, hz, _ => by
    have hz' : t = z := hz
    rw [hz', down_z]; rfl
  | m + 1, g, t, hv, hn, hz, hg => by
    obtain ⟨g, rfl⟩ : ∃ g', g = g' + 1 := ⟨g - 1, by omega⟩
    have h0 : t ≠ z := hn 0 (by omega)
    have h1 : vldB (t.step v).enc = true := hv 1 (by omega)
    rw [down_s v g h0, if_pos h1, down_end hv.tail hn.tail (by rw [it_shift]; exact hz) (by omega), ones_shift]
    simp only [Option.map_some, Option.some.injEq, Prod.mk.injEq, true_and]
    omega
theorem down_long {v : Int} : ∀ {m : Nat} {t : T}, NZ v t m → it v t m ≠ z → down v m t = none
  | 0, t, _, hz => down_0 v hz
  | m + 1, t, hn, hz => by
    have h0 : t ≠ z := hn 0 (by omega)
    rw [down_s v m h0]
    split
    · rw [down_long hn.tail (by rw [it_shift]; exact hz)]; rfl
    · rfl
theorem down_bad {v : Int} : ∀ {m g : Nat} {t : T}, NZ v t (m + 1) → vldB (it v t (m + 1)).enc = false → m + 1 ≤ g → down v g t = none
  | m, 0, t, _, _, hg => by omega
  | 0, g + 1, t, hn, hb, _ => by
    have hb' : vldB (t.step v).enc = false := hb
    have h0 : t ≠ z := hn 0 (by omega)
    rw [down_s v g h0, if_neg (by rw [hb']; decide)]
  | m + 1, g + 1, t, hn, hb, hg => by
    have h0 : t ≠ z := hn 0 (by omega)
    rw [down_s v g h0]
    split
    · rw [down_bad (m := m) hn.tail (by rw [it_shift]; exact hb) (by omega)]; rfl
    · rfl

theorem downP_bad {xs : List Int} {n : Int} (h : vldB xs = false ∨ ¬ (0 ≤ n ∧ n ≤ 99)) : downS xs n = -1 ∧ downO xs n = -1 := by
  have h1 : downP xs n = none := by
    rw [downP, if_neg]
    rintro ⟨k1, k2⟩
    rcases h with h | h
    · rw [h] at k1; cases k1
    · exact h k2
  exact ⟨by rw [downS, h1], by rw [downO, h1]⟩
theorem downP_none {t : T} {n : Int} (h : down n 3000 t = none) : downS t.enc n = -1 ∧ downO t.enc n = -1 := by
  have h1 : downP t.enc n = none := by
    rw [downP]
    split
    · rw [of_enc]; exact h
    · rfl
  exact ⟨by rw [downS, h1], by rw [downO, h1]⟩
theorem downP_some {t : T} {n : Int} {p : Nat × Nat} (hv : vldB t.enc = true) (hn : 0 ≤ n ∧ n ≤ 99) (h : down n 3000 t = some p) : downS t.enc n = p.1 ∧ downO t.enc n = p.2 := by
  have h1 : downP t.enc n = some p := by rw [downP, if_pos ⟨hv, hn⟩, of_enc]; exact h
  exact ⟨by rw [downS, h1], by rw [downO, h1]⟩

end T
end Go.Proofs.Ytdcaefgbpnjjaab

/- DownC -/
/- StepsDown of the program. -/
namespace Go.Proofs.Ytdcaefgbpnjjaab
open Go.RowKit Go.Shelf

attribute [local go_sem] Oper.semAt_some

theorem repeated_any (v m : Int) (w : World) :
    Calls Try.prog 61 #[.int .i64 v, .int .i64 m] w fun e w' => e = .returned (.func (.func 80) #[] #[.pointer (some ⟨w.heap.size + 1, 0, none⟩), .pointer (some ⟨w.heap.size, 0, none⟩)]) ∧
      w' = (w.alloc (.cells #[.int .i64 v] 3)).alloc (.cells #[.int .i64 m] 3) := by
  go_enter Try.func61, Try.ntmps61
  go_wp2
  go_ret
  exact ⟨rfl, rfl⟩

theorem stepsFrom_any (a : Option Addr) (n c k : Nat) (ls : Array Value) (w : World) :
    Calls Try.prog 58 #[.slice a n c, .func (.func k) #[] ls] w fun e w' => e = .returned (.func (.func 78) #[] #[.pointer (some ⟨w.heap.size, 0, none⟩), .pointer (some ⟨w.heap.size + 1, 0, none⟩)]) ∧
      w' = (w.alloc (.cells #[.slice a n c] 23)).alloc (.cells #[.func (.func k) #[] ls] 60) := by
  go_enter Try.func58, Try.ntmps58
  go_wp2
  go_ret
  exact ⟨rfl, rfl⟩

theorem two_set {W : World} {s : Nat} {x y : Value} (h4 : W.cell? ⟨s, 0, none⟩ = some x) (h5 : W.cell? ⟨s + 1, 0, none⟩ = some y) (u v : Value) :
    ((W.setCell ⟨s, 0, none⟩ u).setCell ⟨s + 1, 0, none⟩ v).cell? ⟨s, 0, none⟩ = some u ∧ ((W.setCell ⟨s, 0, none⟩ u).setCell ⟨s + 1, 0, none⟩ v).cell? ⟨s + 1, 0, none⟩ = some v := by
  have k4 : (W.setCell ⟨s, 0, none⟩ u).cell? ⟨s, 0, none⟩ = some u := World.cell?_setCell_same _ _ _ h4
  have k5 : (W.setCell ⟨s, 0, none⟩ u).cell? ⟨s + 1, 0, none⟩ = some y :=
    (World.cell?_of_block ((grownBy_setCell' _ _ _).block _ (World.block_lt_of_cell? _ _ h5) (fun e => by have h : s + 1 = s := Option.some.inj e; omega))).trans h5
  exact ⟨(World.cell?_of_block ((grownBy_setCell' _ _ _).block _ (World.block_lt_of_cell? _ _ k4) (fun e => by have h : s = s + 1 := Option.some.inj e; omega))).trans k4, World.cell?_setCell_same _ _ _ k5⟩
theorem below_two {w W : World} (h : Below w.heap.size w W) (u v : Value) : Below w.heap.size w ((W.setCell ⟨w.heap.size, 0, none⟩ u).setCell ⟨w.heap.size + 1, 0, none⟩ v) :=
  (h.setCell (p := ⟨w.heap.size, 0, none⟩) (Nat.le_refl _) _).setCell (p := ⟨w.heap.size + 1, 0, none⟩) (Nat.le_succ _) _

/-- Between two rounds of StepsDown's loop. -/
def DnI (v : Int) (t : T) (w W0 : World) (s3 m : Nat) (W : World) : Prop :=
  m ≤ 3000 ∧ T.VU v t m ∧ T.NZ v t m ∧ Boxed W w.heap.size 3 (.int .i64 0) ∧ Boxed W (w.heap.size + 1) 3 (.int .i64 0) ∧ Boxed W s3 3 (.int .i64 m) ∧ Boxed W (s3 + 1) 3 (.int .i64 (T.ones v t m)) ∧ Below w.heap.size w W ∧
    ∃ bb off c, Boxed W (s3 + 1 + 1) 23 (.slice (some ⟨bb, off, none⟩) (T.it v t m).enc.length c) ∧ (T.it v t m).enc.length ≤ c ∧ c ≤ maxLen ∧ At W bb off (T.it v t m).enc ∧ (bb < w.heap.size ∨ W0.heap.size + 4 ≤ bb)
def DnX (v : Int) (t : T) (w : World) (c : Code) (m : Nat) (W : World) : Prop :=
  c = .ret ∧ 1 ≤ m ∧ m ≤ 3000 ∧ T.NZ v t m ∧ T.vldB (T.it v t m).enc = false ∧ Boxed W w.heap.size 3 (.int .i64 (-1)) ∧ Boxed W (w.heap.size + 1) 3 (.int .i64 (-1)) ∧ Below w.heap.size w W

theorem box_at {W : World} {s : Nat} (t : TypeId) (v : Value) (hs : W.heap.size = s) : Boxed (W.alloc (.cells #[v] t)) s t v := by
  subst hs; exact Boxed.new W t v
theorem Boxed.below {W W' : World} {B n₀ : Nat} {t : TypeId} {v : Value} (h : Boxed W B t v) (hb : Below n₀ W W') (hB : B < n₀) : Boxed W' B t v := (hb.block B hB).trans h

theorem at_set {W : World} {b o s : Nat} {xs : List Int} (h : At W b o xs) (hne : b ≠ s) (u : Value) : At (W.setCell ⟨s, 0, none⟩ u) b o xs := fun j hj =>
  (World.cell?_of_block ((grownBy_setCell' W s u).block b (World.block_lt_of_cell? W _ (h j hj)) (fun e => hne (Option.some.inj e)))).trans (h j hj)

/-- The two results lie in cells. -/
theorem down_out {W : World} {n : Nat} {tmps : Array Value} {c4 c5 : Nat} {x y : Int} (ht4 : tmps[4]?.getD undef = .pointer (some ⟨c4, 0, none⟩)) (ht5 : tmps[5]?.getD undef = .pointer (some ⟨c5, 0, none⟩))
    (h4 : W.cell? ⟨c4, 0, none⟩ = some (.int .i64 x)) (h5 : W.cell? ⟨c5, 0, none⟩ = some (.int .i64 y)) {R : Ending → World → Prop} (hR : R (.returned (.tuple #[.int .i64 x, .int .i64 y])) W) :
    LeavesInM Fence.wide n Try.prog Try.f26 tmps R [] .returning W := by
  refine ⟨_, ?_, hR⟩
  simp [results, Try.f26, go_sem, ht4, ht5, h4, h5]

set_option maxRecDepth 100000 in
set_option maxHeartbeats 4000000 in
theorem impl_StepsDown (ao : Option Addr) (len cap : Nat) (xs : List Int) (n : Int) (w : World) (h : Sl w ao len cap xs) (_hn0 : -9223372036854775808 ≤ n) (_hn1 : n ≤ 9223372036854775807) :
    Calls Try.prog 26 #[.slice ao len cap, .int .i64 n] w fun e w' => e = .returned (.tuple #[.int .i64 (T.downS xs n), .int .i64 (T.downO xs n)]) ∧ Below w.heap.size w w' := by
  have hw2 : Below w.heap.size w ((w.alloc (.cells #[.int .i64 0] 3)).alloc (.cells #[.int .i64 0] 3)) := ((Below.refl _ _).alloc (Nat.le_refl _) _).alloc (by simp) _
  have ks := Lib.hid (isStepNumber_any n)
  obtain ⟨w2, hww⟩ : ∃ w2, w2 = (w.alloc (.cells #[.int .i64 0] 3)).alloc (.cells #[.int .i64 0] 3) := ⟨_, rfl⟩
  have hs2 : w2.heap.size = w.heap.size + 2 := by rw [hww]; simp
  have hx4 : Boxed w2 w.heap.size 3 (.int .i64 0) := by rw [hww]; exact (Boxed.new w _ _).alloc _
  have hx5 : Boxed w2 (w.heap.size + 1) 3 (.int .i64 0) := by
    have h := Boxed.new (w.alloc (.cells #[.int .i64 0] 3)) 3 (.int .i64 0)
    rw [World.size_alloc] at h
    rw [hww]; exact h
  rw [← hww] at hw2
  have HWW := Lib.hid hww.symm
  clear hww
  refine (callsIn_wide (n := 20)).1 ?_
  rcases vld_tf xs with h1 | h1
  · have k1 := Lib.hid (impl_valid ao len cap xs w2 (h.below hw2) h1)
    by_cases hin : 0 ≤ n ∧ n ≤ 99
    · obtain ⟨b, off, t, rfl, rfl, hs, hos, hat, hn, hl, hp, hc, hm⟩ := h.valid h1
      have hkt : decide (0 ≤ n ∧ n ≤ 99) = true := decide_eq_true hin
      rw [hkt] at ks
      have hbw : b < w.heap.size := hat.lt (T.enc_ne t)
      have HAT := Lib.hid hat
      have HN := Lib.hid hn
      have H1 := Lib.hid h1
      clear h h1 hos hs hat hn hkt
      refine callsIn_of_wp_marks Try.func26 rfl trivial ?_ rfl
      simp only [Try.ntmps26, List.size_toArray, List.length_cons, List.length_nil, Nat.reduceAdd, Nat.reduceSub, Array.replicate_succ, Array.replicate_zero, List.push_toArray, List.append_toArray, List.nil_append, List.cons_append]
      gi_wp2
      rw [HWW.out]
      refine ⟨trivial, (callsIn_wide.2 k1.out).mono ?_⟩
      rintro ee w3 ⟨rfl, hb3⟩
      gi_wp2
      refine ⟨trivial, (callsIn_wide.2 (ks.out _)).mono ?_⟩
      rintro ee wx ⟨rfl, rfl⟩
      gi_wp2
      refine ⟨trivial, (callsIn_wide.2 (repeated_any n 3000 _)).mono ?_⟩
      rintro ee wr ⟨rfl, rfl⟩
      gi_wp2
      refine ⟨trivial, (callsIn_wide.2 (stepsFrom_any _ _ _ _ _ _)).mono ?_⟩
      rintro ee ws ⟨rfl, rfl⟩
      gi_wp2
      obtain ⟨s3, hs3⟩ : ∃ s3, s3 = w3.heap.size := ⟨_, rfl⟩
      rw [← hs3]
      obtain ⟨W0, hW0⟩ : ∃ W0, W0 = (((((((w3.alloc (.cells #[.int .i64 0] 3)).alloc (.cells #[.int .i64 0] 3)).alloc (.cells #[.slice (some ⟨b, off, none⟩) len cap] 23)).alloc (.cells #[.int .i64 n] 3)).alloc (.cells #[.int .i64 3000] 3)).alloc (.cells #[.slice (some ⟨b, off, none⟩) len cap] 23)).alloc (.cells #[.func (.func 80) #[] #[.pointer (some ⟨s3 + 1 + 1 + 1 + 1, 0, none⟩), .pointer (some ⟨s3 + 1 + 1 + 1, 0, none⟩)]] 60)) := ⟨_, rfl⟩
      rw [← hW0]
      have hsz : W0.heap.size = s3 + 7 := by rw [hW0, hs3]; simp
      have hb30 : Below w3.heap.size w3 W0 := by
        rw [hW0]
        exact (((((((Below.refl _ _).alloc (Nat.le_refl _) _).alloc (by simp) _).alloc (by simp; omega) _).alloc (by simp; omega) _).alloc (by simp; omega) _).alloc (by simp; omega) _).alloc (by simp; omega) _
      have e6 : Boxed W0 s3 3 (.int .i64 0) := by rw [hW0]; exact ((((((box_at _ _ hs3.symm).alloc _).alloc _).alloc _).alloc _).alloc _).alloc _
      have e7 : Boxed W0 (s3 + 1) 3 (.int .i64 0) := by rw [hW0]; exact (((((box_at _ _ (by rw [hs3]; simp)).alloc _).alloc _).alloc _).alloc _).alloc _
      have e8 : Boxed W0 (s3 + 1 + 1) 23 (.slice (some ⟨b, off, none⟩) len cap) := by rw [hW0]; exact ((((box_at _ _ (by rw [hs3]; simp)).alloc _).alloc _).alloc _).alloc _
      have eN : Boxed W0 (s3 + 1 + 1 + 1) 3 (.int .i64 n) := by rw [hW0]; exact (((box_at _ _ (by rw [hs3]; simp)).alloc _).alloc _).alloc _
      have eM : Boxed W0 (s3 + 1 + 1 + 1 + 1) 3 (.int .i64 3000) := by rw [hW0]; exact ((box_at _ _ (by rw [hs3]; simp)).alloc _).alloc _
      have eO : Boxed W0 (s3 + 1 + 1 + 1 + 1 + 1) 23 (.slice (some ⟨b, off, none⟩) len cap) := by rw [hW0]; exact (box_at _ _ (by rw [hs3]; simp)).alloc _
      have eF : Boxed W0 (s3 + 1 + 1 + 1 + 1 + 1 + 1) 60 (.func (.func 80) #[] #[.pointer (some ⟨s3 + 1 + 1 + 1 + 1, 0, none⟩), .pointer (some ⟨s3 + 1 + 1 + 1, 0, none⟩)]) := by rw [hW0]; exact box_at _ _ (by rw [hs3]; simp)
      have hs23 : w2.heap.size ≤ s3 := by rw [hs3]; exact hb3.size
      have hb20 : Below w2.heap.size w2 W0 := hb3.trans (hb30.mono hb3.size)
      have e4 : Boxed W0 w.heap.size 3 (.int .i64 0) := Boxed.below hx4 hb20 (by omega)
      have e5 : Boxed W0 (w.heap.size + 1) 3 (.int .i64 0) := Boxed.below hx5 hb20 (by omega)
      have hbw0 : Below w.heap.size w W0 := hw2.trans (hb20.mono hw2.size)
      have hat0 : At W0 b off t.enc := HAT.out.below hbw0 hbw
      clear hW0 hb30 hb20 hb3 hs3
      have hvt := H1.out
      have hseq := stepsFrom1_seq 19 n hin.1 hin.2 3000 w.heap.size (s3 + 3) (W0.heap.size + 4) (s3 + 1 + 1 + 1 + 1 + 1) (s3 + 1 + 1 + 1 + 1 + 1 + 1) (s3 + 1 + 1 + 1 + 1) (s3 + 1 + 1 + 1) b off len cap t W0 (by omega) (Nat.le_refl _) (by omega) (Nat.le_refl _)
        ⟨by omega, .inr (by omega)⟩ ⟨by omega, .inr (by omega)⟩ ⟨by omega, .inr (by omega)⟩ ⟨by omega, .inr (by omega)⟩ (.inl hbw) eO.cell eF.cell eM.cell eN.cell HN.out hc hm hat0 hvt
      have hvu : T.VU n t 0 := fun j hj => by
        obtain rfl : j = 0 := by omega
        exact hvt
      have hnz : T.NZ n t 0 := fun j hj => by omega
      have hlen0 : (T.it n t 0).enc.length = len := HN.out.symm
      have h00 : DnI n t w W0 s3 0 W0 := ⟨Nat.zero_le _, hvu, hnz, e4, e5, e6, e7, hbw0, b, off, cap, by rw [hlen0]; exact e8, by rw [hlen0]; exact hc, hm, hat0, .inl hbw⟩
      have Hseq := Lib.hid hseq
      clear hseq eO eF eM eN e6 e7 e8 e4 e5 hat0 hvu hnz hlen0
      refine wpIn_rangeX rfl (by omega) (gf := 78) (lb := #[.pointer (some ⟨s3 + 1 + 1 + 1 + 1 + 1, 0, none⟩), .pointer (some ⟨s3 + 1 + 1 + 1 + 1 + 1 + 1, 0, none⟩)]) rfl trivial (enters_of Try.func78 (by kernel_rfl) rfl)
        Hseq.out (by omega) (Below.refl _ _) (fun _ => rfl) (fun i x W l o o' hg _ ho hc => ⟨hg.1, hg.2.1, hg.2.2.1, hg.2.2.2.1, hg.2.2.2.2.1, ownsRow_putObj hg.2.2.2.2.2 o' ho hc⟩) (DnI n t w W0 s3) (DnX n t w) ?hI ?hIx h00
        (fun x => { tmps := #[.slice (some ⟨b, off, none⟩) len cap, .int .i64 n, undef, undef, .pointer (some ⟨w.heap.size, 0, none⟩), .pointer (some ⟨w.heap.size + 1, 0, none⟩), .pointer (some ⟨s3, 0, none⟩), .pointer (some ⟨s3 + 1, 0, none⟩), .pointer (some ⟨s3 + 1 + 1, 0, none⟩), .slice x.1 x.2.1 x.2.2.1, .bool x.2.2.2, .slice (some ⟨b, off, none⟩) len cap, .bool true, .bool false, .bool false, .int .i64 n, .bool true, .bool false, .bool false, .slice (some ⟨b, off, none⟩) len cap, .slice (some ⟨b, off, none⟩) len cap, .int .i64 n, .func (.func 80) #[] #[.pointer (some ⟨s3 + 1 + 1 + 1 + 1, 0, none⟩), .pointer (some ⟨s3 + 1 + 1 + 1, 0, none⟩)], .func (.func 78) #[] #[.pointer (some ⟨s3 + 1 + 1 + 1 + 1 + 1, 0, none⟩), .pointer (some ⟨s3 + 1 + 1 + 1 + 1 + 1 + 1, 0, none⟩)], .slice x.1 x.2.1 x.2.2.1, .bool x.2.2.2, undef, undef, undef, undef, undef, undef, undef, undef, undef, undef, undef, undef, undef, undef, undef], defers := [] })
        ?assign ?body ?done ?stop
      case hI =>
        rintro m A C row ⟨hm', hvu, hnz, b4, b5, b6, b7, hb, bb, off', c', b8, hle, hcm', hata, hbb⟩ hg hr
        have hup : ∀ r, row = some r → W0.heap.size ≤ r := fun r e => (hr r e).1
        refine ⟨hm', hvu, hnz, b4.kept hg (fun e => by have := hup _ e.symm; omega), b5.kept hg (fun e => by have := hup _ e.symm; omega), b6.kept hg (fun e => by have := hup _ e.symm; omega), b7.kept hg (fun e => by have := hup _ e.symm; omega),
          hb.grown hg hb.size (fun k e => by have := hup k e; omega), bb, off', c', b8.kept hg (fun e => by have := hup _ e.symm; omega), hle, hcm', fun j hj => hg.cell (hata j hj) (fun e => ?_), hbb⟩
        obtain ⟨k1, k2⟩ := hr bb e.symm
        rcases hbb with h | h
        · omega
        · rcases k2 with k2 | ⟨o, ho, hc⟩
          · omega
          · obtain ⟨o', ho', hc'⟩ := cells_of_cell (hata j hj)
            rw [ho] at ho'
            cases ho'
            rw [hc] at hc'
            cases hc'
      case hIx =>
        rintro c m A C row ⟨hc', h2, h3, h4, h5, b4, b5, hb⟩ hg hr
        have hup : ∀ r, row = some r → W0.heap.size ≤ r := fun r e => (hr r e).1
        exact ⟨hc', h2, h3, h4, h5, b4.kept hg (fun e => by have := hup _ e.symm; omega), b5.kept hg (fun e => by have := hup _ e.symm; omega), hb.grown hg hb.size (fun k e => by have := hup k e; omega)⟩
      case assign =>
        rintro l ⟨xa, xn, xc, xo⟩ W K hK
        dsimp only [encsH] at hK ⊢
        gi_wp2
        exact hK
      case body =>
        rintro l m ⟨xa, xn, xc, xo⟩ Wr hl' ⟨hm', hvu, hnz, b4, b5, b6, b7, hb, bb, off', c', b8, hle, hcm', hata, hbb⟩ ⟨hm2, _, hnz0, hxn, hxo, hown⟩
        dsimp only at hxn hxo hown ⊢
        have z4 := b4.cell
        have z5 := b5.cell
        have z6 := b6.cell
        have z7 := b7.cell
        have z8 := b8.cell
        have f4 := b4.frozen
        have f5 := b5.frozen
        have f6 := b6.frozen
        have f7 := b7.frozen
        have f8 := b8.frozen
        have HB := Lib.hid hb
        have Hown := Lib.hid hown
        have Hxn := Lib.hid hxn
        have HVU := Lib.hid hvu
        have HNZ := Lib.hid (hnz.snoc hnz0)
        have HBB := Lib.hid hbb
        have HATA := Lib.hid hata
        have B4 := Lib.hid b4
        have B5 := Lib.hid b5
        have B6 := Lib.hid b6
        have B7 := Lib.hid b7
        have B8 := Lib.hid b8
        clear hb hown hxn hvu hnz hnz0 hbb hata b4 b5 b6 b7 b8
        cases hxo2 : xo with
        | false =>
          have HXO := Lib.hid (hxo.symm.trans hxo2)
          clear hxo hxo2
          gi_wp2
          refine ⟨((KO.refl _ _ _).setCell _ _ ⟨Nat.le_refl _, by omega⟩).setCell _ _ ⟨by omega, by omega⟩, rfl, by omega, by omega, HNZ.out, HXO.out, (B4.out.set _).other (by omega) _, (B5.out.other (by omega) _).set _, below_two HB.out _ _⟩
        | true =>
          have hvn : T.vldB (T.it n t (m + 1)).enc = true := hxo.symm.trans hxo2
          have hfe : T.fit (T.it n t (m + 1)) = (T.it n t (m + 1)).enc := by rw [T.fit, if_pos hvn]
          have hown := Hown.out
          have hxn := Hxn.out
          rw [hfe] at hown hxn
          subst hxn
          obtain ⟨g2, rfl, hg2, hatn, hcn, hcmn⟩ := own_rowT hown
          have HXO := Lib.hid hvn
          have hn60 : (T.it n t m).enc.length ≤ 60 := (T.vldB_true.1 (HVU.out m (Nat.le_refl _))).1
          obtain ⟨on, hon⟩ : ∃ on, on = T.ones n t m := ⟨_, rfl⟩
          have hob : on ≤ 3000 := by rw [hon]; have := T.ones_le n t m; omega
          rw [← hon] at z7 B7
          have Hon := Lib.hid hon
          have hbs3 : bb ≠ s3 := by have := HBB.out; omega
          have at1 : At (Wr.setCell ⟨s3, 0, none⟩ (.int .i64 ((m : Int) + 1))) bb off' (T.it n t m).enc := at_set HATA.out hbs3 _
          have kk := Lib.hid (kindOf_any bb off' _ c' (T.it n t m) _ rfl (by omega) hle hcm' at1)
          have HAtn := Lib.hid hatn
          have q7 := (B7.out.other (show s3 + 1 ≠ s3 by omega) (.int .i64 ((m : Int) + 1))).cell
          have q8 := (B8.out.other (show s3 + 1 + 1 ≠ s3 by omega) (.int .i64 ((m : Int) + 1))).cell
          have hg2l : g2 < Wr.heap.size := hatn.lt (T.enc_ne _)
          have hl6 : s3 < Wr.heap.size := B6.out.lt
          have hl7 : s3 + 1 < Wr.heap.size := B7.out.lt
          have hl8 : s3 + 1 + 1 < Wr.heap.size := B8.out.lt
          have hl4 : w.heap.size < Wr.heap.size := B4.out.lt
          have hl5 : w.heap.size + 1 < Wr.heap.size := B5.out.lt
          clear hxo hxo2 hvn hfe hown hon at1 hatn
          gi_wp2
          refine ⟨trivial, (CallsIn.inRound l (callsIn_wide.2 kk.out)).mono ?_⟩
          rintro ee w5 ⟨rfl, hb5⟩
          have hsz1 : (Wr.setCell ⟨s3, 0, none⟩ (.int .i64 ((m : Int) + 1))).heap.size = Wr.heap.size := by simp [World.setCell]
          have x4 := Boxed.below (B4.out.other (show w.heap.size ≠ s3 by omega) (.int .i64 ((m : Int) + 1))) hb5 (by rw [hsz1]; omega)
          have x5 := Boxed.below (B5.out.other (show w.heap.size + 1 ≠ s3 by omega) (.int .i64 ((m : Int) + 1))) hb5 (by rw [hsz1]; omega)
          have x6 := Boxed.below (B6.out.set (.int .i64 ((m : Int) + 1))) hb5 (by rw [hsz1]; omega)
          have x7 := Boxed.below (B7.out.other (show s3 + 1 ≠ s3 by omega) (.int .i64 ((m : Int) + 1))) hb5 (by rw [hsz1]; omega)
          have x8 := Boxed.below (B8.out.other (show s3 + 1 + 1 ≠ s3 by omega) (.int .i64 ((m : Int) + 1))) hb5 (by rw [hsz1]; omega)
          have v7 := x7.cell
          have v8 := x8.cell
          have h7f := x7.frozen
          have h8f := x8.frozen
          have HKO := Lib.hid (((KO.refl w.heap.size (s3 + 3) Wr).setCell s3 (.int .i64 ((m : Int) + 1)) ⟨by omega, by omega⟩).trans (KO.of_below hb5))
          have HBW := Lib.hid ((HB.out.setCell (p := ⟨s3, 0, none⟩) (by show w.heap.size ≤ s3; omega) (.int .i64 ((m : Int) + 1))).trans (hb5.mono (by rw [hsz1]; omega)))
          have HAN := Lib.hid ((at_set HAtn.out (show g2 ≠ s3 by omega) (.int .i64 ((m : Int) + 1))).below hb5 (by rw [hsz1]; omega))
          have X4 := Lib.hid x4
          have X5 := Lib.hid x5
          have X6 := Lib.hid x6
          have X7 := Lib.hid x7
          have X8 := Lib.hid x8
          clear x4 x5 x6 x7 x8 hb5
          by_cases hkd : (T.it n t m).kind = 1
          · have hkb : ((T.it n t m).kind == 1) = true := by rw [hkd]; rfl
            have HKD := Lib.hid hkd
            clear hkd
            gi_wp2
            have hon1 : ((T.ones n t (m + 1) : Nat) : Int) = (on : Int) + 1 := by rw [T.ones, if_pos HKD.out, ← Hon.out]; simp
            have hm1 : (((m + 1 : Nat)) : Int) = (m : Int) + 1 := by omega
            refine ⟨(HKO.out.setCell _ _ ⟨by omega, by omega⟩).setCell _ _ ⟨by omega, by omega⟩, by omega, HVU.out.snoc HXO.out, HNZ.out, ?_, ?_, ?_, ?_, ?_, g2, 0, xc, ?_, hcn, hcmn, ?_, .inr (by omega)⟩
            · exact (X4.out.other (by omega) _).other (by omega) _
            · exact (X5.out.other (by omega) _).other (by omega) _
            · rw [hm1]; exact (X6.out.other (by omega) _).other (by omega) _
            · rw [hon1]; exact (X7.out.set _).other (by omega) _
            · exact (HBW.out.setCell (p := ⟨s3 + 1, 0, none⟩) (by show w.heap.size ≤ s3 + 1; omega) _).setCell (p := ⟨s3 + 1 + 1, 0, none⟩) (by show w.heap.size ≤ s3 + 1 + 1; omega) _
            · exact (X8.out.other (by omega) _).set _
            · exact fun j hj => at_set (at_set HAN.out (by omega) _) (by omega) _ j hj
          · have hkb : ((T.it n t m).kind == 1) = false := by simpa using hkd
            have HKD := Lib.hid hkd
            clear hkd
            gi_wp2
            have hon1 : ((T.ones n t (m + 1) : Nat) : Int) = (on : Int) := by rw [T.ones, if_neg HKD.out, ← Hon.out]; simp
            have hm1 : (((m + 1 : Nat)) : Int) = (m : Int) + 1 := by omega
            refine ⟨HKO.out.setCell _ _ ⟨by omega, by omega⟩, by omega, HVU.out.snoc HXO.out, HNZ.out, ?_, ?_, ?_, ?_, ?_, g2, 0, xc, ?_, hcn, hcmn, ?_, .inr (by omega)⟩
            · exact X4.out.other (by omega) _
            · exact X5.out.other (by omega) _
            · rw [hm1]; exact X6.out.other (by omega) _
            · rw [hon1]; exact X7.out.other (by omega) _
            · exact HBW.out.setCell (p := ⟨s3 + 1 + 1, 0, none⟩) (by show w.heap.size ≤ s3 + 1 + 1; omega) _
            · exact X8.out.set _
            · exact fun j hj => at_set HAN.out (by omega) _ j hj
      case done =>
        rintro D m Wd hD ⟨hm3, _, hend⟩ ⟨hm', hvu, hnz, b4, b5, b6, b7, hb, bb, off', c', b8, hle, hcm', hata, hbb⟩ hK
        have z4 := b4.cell
        have z5 := b5.cell
        have z6 := b6.cell
        have z7 := b7.cell
        have z8 := b8.cell
        have f4 := b4.frozen
        have f5 := b5.frozen
        have hvm := hvu m (Nat.le_refl _)
        obtain ⟨on, hon⟩ : ∃ on, on = T.ones n t m := ⟨_, rfl⟩
        have hob : on ≤ 3000 := by rw [hon]; have := T.ones_le n t m; omega
        rw [← hon] at z7
        have Hon := Lib.hid hon
        have ki := Lib.hid (isZero_any bb off' (T.it n t m).enc.length c' ((T.it n t m).cnt : Int) Wd (by rw [T.enc_len]; omega) hata.head)
        have HK := Lib.hid hK
        have HB := Lib.hid hb
        have HVU := Lib.hid hvu
        have HNZ := Lib.hid hnz
        have hl4 : w.heap.size ≠ D := by have := b4.lt; omega
        have hl5 : w.heap.size + 1 ≠ D := by have := b5.lt; omega
        have hDl : D < Wd.heap.size := (Array.getElem?_eq_some_iff.1 hK).1
        clear hon hK hb hata b6 b7 b8
        by_cases hz : T.it n t m = .z
        · have hzb : (((T.it n t m).cnt : Int) == 0) = true := by rw [hz]; rfl
          obtain ⟨e1, e2⟩ := T.downP_some hvt hin (T.down_end HVU.out HNZ.out hz hm3)
          have E1 := Lib.hid e1
          have E2 := Lib.hid e2
          clear hz hvu hnz hend e1 e2
          gi_wp2
          refine ⟨trivial, (callsIn_wide.2 ki.out).mono ?_⟩
          rintro ee wx ⟨rfl, rfl⟩
          gi_wp2
          gi_region
          gi_wp2
          obtain ⟨y4, y5⟩ := two_set z4 z5 (.int .i64 m) (.int .i64 on)
          have hK2 : ((Wd.setCell ⟨w.heap.size, 0, none⟩ (.int .i64 m)).setCell ⟨w.heap.size + 1, 0, none⟩ (.int .i64 on)).drew.heap[D]? = some (.deferred (some [])) :=
            ((grownBy_setCell' _ _ _).block D (by rw [show (Wd.setCell ⟨w.heap.size, 0, none⟩ (.int .i64 m)).heap.size = Wd.heap.size by simp [World.setCell]]; exact hDl) (fun e => hl5 (Option.some.inj e).symm)).trans (((grownBy_setCell' _ _ _).block D hDl (fun e => hl4 (Option.some.inj e).symm)).trans HK.out)
          refine ⟨by simp, .inl ⟨_, _, rfl, run_takeDeferred hK2, ?_⟩⟩
          have hbd := (below_two HB.out (.int .i64 m) (.int .i64 on)).drew
          have hfin := hbd.grown (grownBy_putObj' _ D (.deferred none)) hbd.size (fun k e => by cases e; omega)
          refine down_out rfl rfl (x := (m : Int)) (y := (on : Int)) ?_ ?_ ⟨by rw [E1.out, E2.out, Hon.out], hfin⟩
          · exact (World.cell?_of_block (World.putObj_heap_other hl4)).trans y4
          · exact (World.cell?_of_block (World.putObj_heap_other hl5)).trans y5
        · have hzb : (((T.it n t m).cnt : Int) == 0) = false := by
            cases hti : T.it n t m with
            | z => exact absurd hti hz
            | c q f u => simp [T.cnt]; omega
          obtain ⟨e1, e2⟩ := T.downP_none (t := t) (n := n) (by
            rcases hend with h | h | h
            · rw [← h]; exact T.down_long HNZ.out hz
            · exact absurd h hz
            · rw [hvm] at h; cases h)
          have E1 := Lib.hid e1
          have E2 := Lib.hid e2
          clear hz hvu hnz hend e1 e2
          gi_wp2
          refine ⟨trivial, (callsIn_wide.2 ki.out).mono ?_⟩
          rintro ee wx ⟨rfl, rfl⟩
          gi_wp2
          obtain ⟨y4, y5⟩ := two_set z4 z5 (.int .i64 (-1)) (.int .i64 (-1))
          have hK2 : ((Wd.setCell ⟨w.heap.size, 0, none⟩ (.int .i64 (-1))).setCell ⟨w.heap.size + 1, 0, none⟩ (.int .i64 (-1))).heap[D]? = some (.deferred (some [])) :=
            ((grownBy_setCell' _ _ _).block D (by rw [show (Wd.setCell ⟨w.heap.size, 0, none⟩ (.int .i64 (-1))).heap.size = Wd.heap.size by simp [World.setCell]]; exact hDl) (fun e => hl5 (Option.some.inj e).symm)).trans (((grownBy_setCell' _ _ _).block D hDl (fun e => hl4 (Option.some.inj e).symm)).trans HK.out)
          refine ⟨by simp, .inl ⟨_, _, rfl, run_takeDeferred hK2, ?_⟩⟩
          exact down_out rfl rfl ((World.cell?_of_block (World.putObj_heap_other hl4)).trans y4) ((World.cell?_of_block (World.putObj_heap_other hl5)).trans y5) ⟨by rw [E1.out, E2.out], (below_two HB.out _ _).grown (grownBy_putObj' _ D _) (below_two HB.out _ _).size (fun k e => by cases e; omega)⟩
      case stop =>
        rintro D c m Wd hD _ ⟨rfl, h2, h3, h4, h5, b4, b5, hb⟩ hK
        obtain ⟨e1, e2⟩ := T.downP_none (t := t) (n := n) (T.down_bad (m := m - 1) (g := 3000) (by rw [show m - 1 + 1 = m by omega]; exact h4) (by rw [show m - 1 + 1 = m by omega]; exact h5) (by omega))
        have y4 : (Wd.putObj D (.deferred none)).cell? ⟨w.heap.size, 0, none⟩ = some (.int .i64 (-1)) := (b4.kept (grownBy_putObj' Wd D _) (fun e => by have h : w.heap.size = D := Option.some.inj e; omega)).cell
        have y5 : (Wd.putObj D (.deferred none)).cell? ⟨w.heap.size + 1, 0, none⟩ = some (.int .i64 (-1)) := (b5.kept (grownBy_putObj' Wd D _) (fun e => by have h : w.heap.size + 1 = D := Option.some.inj e; omega)).cell
        have hbD : Below w.heap.size w (Wd.putObj D (.deferred none)) := hb.grown (grownBy_putObj' Wd D _) hb.size (fun k e => by cases e; omega)
        gi_wp2
        refine ⟨by simp, .inl ⟨_, _, rfl, run_takeDeferred hK, ?_⟩⟩
        exact down_out rfl rfl y4 y5 ⟨by rw [e1, e2], hbD⟩
    · have hkt : decide (0 ≤ n ∧ n ≤ 99) = false := decide_eq_false hin
      rw [hkt] at ks
      obtain ⟨e1, e2⟩ := T.downP_bad (xs := xs) (n := n) (.inr hin)
      rw [e1, e2]
      clear h h1 e1 e2 hkt hin
      refine callsIn_of_wp_marks Try.func26 rfl trivial ?_ rfl
      simp only [Try.ntmps26, List.size_toArray, List.length_cons, List.length_nil, Nat.reduceAdd, Nat.reduceSub, Array.replicate_succ, Array.replicate_zero, List.push_toArray, List.append_toArray, List.nil_append, List.cons_append]
      gi_wp2
      rw [HWW.out]
      refine ⟨trivial, (callsIn_wide.2 k1.out).mono ?_⟩
      rintro ee w3 ⟨rfl, hb3⟩
      have hl4 : w.heap.size < w2.heap.size := by omega
      have hl5 : w.heap.size + 1 < w2.heap.size := by omega
      have z4 := (hb3.cell (p := ⟨w.heap.size, 0, none⟩) hl4).trans hx4.cell
      have z5 := (hb3.cell (p := ⟨w.heap.size + 1, 0, none⟩) hl5).trans hx5.cell
      have f4 : w3.frozen? ⟨w.heap.size, 0, none⟩ = false := (World.frozen?_of_block (hb3.block _ hl4)).trans hx4.frozen
      have f5 : w3.frozen? ⟨w.heap.size + 1, 0, none⟩ = false := (World.frozen?_of_block (hb3.block _ hl5)).trans hx5.frozen
      have Hb3 := Lib.hid (hw2.trans (hb3.mono hw2.size))
      clear hb3
      gi_wp2
      refine ⟨trivial, (callsIn_wide.2 (ks.out _)).mono ?_⟩
      rintro ee wx ⟨rfl, rfl⟩
      gi_wp2
      obtain ⟨y4, y5⟩ := two_set z4 z5 (.int .i64 (-1)) (.int .i64 (-1))
      exact down_out rfl rfl y4 y5 ⟨rfl, below_two Hb3.out _ _⟩
  · have k1 := Lib.hid (impl_valid ao len cap xs w2 (h.below hw2) h1)
    obtain ⟨e1, e2⟩ := T.downP_bad (xs := xs) (n := n) (.inl h1)
    rw [e1, e2]
    clear h h1 e1 e2
    refine callsIn_of_wp_marks Try.func26 rfl trivial ?_ rfl
    simp only [Try.ntmps26, List.size_toArray, List.length_cons, List.length_nil, Nat.reduceAdd, Nat.reduceSub, Array.replicate_succ, Array.replicate_zero, List.push_toArray, List.append_toArray, List.nil_append, List.cons_append]
    gi_wp2
    rw [HWW.out]
    refine ⟨trivial, (callsIn_wide.2 k1.out).mono ?_⟩
    rintro ee w3 ⟨rfl, hb3⟩
    have hl4 : w.heap.size < w2.heap.size := by omega
    have hl5 : w.heap.size + 1 < w2.heap.size := by omega
    have z4 := (hb3.cell (p := ⟨w.heap.size, 0, none⟩) hl4).trans hx4.cell
    have z5 := (hb3.cell (p := ⟨w.heap.size + 1, 0, none⟩) hl5).trans hx5.cell
    have f4 : w3.frozen? ⟨w.heap.size, 0, none⟩ = false := (World.frozen?_of_block (hb3.block _ hl4)).trans hx4.frozen
    have f5 : w3.frozen? ⟨w.heap.size + 1, 0, none⟩ = false := (World.frozen?_of_block (hb3.block _ hl5)).trans hx5.frozen
    have Hb3 := Lib.hid (hw2.trans (hb3.mono hw2.size))
    clear hb3
    gi_wp2
    refine ⟨trivial, ?_⟩
    gi_wp2
    obtain ⟨y4, y5⟩ := two_set z4 z5 (.int .i64 (-1)) (.int .i64 (-1))
    exact down_out rfl rfl y4 y5 ⟨rfl, below_two Hb3.out _ _⟩
end Go.Proofs.Ytdcaefgbpnjjaab

/- FallC -/
/- OrdFall of the program. -/
namespace Go.Proofs.Ytdcaefgbpnjjaab
open Go.RowKit Go.Shelf

attribute [local go_sem] Oper.semAt_some

/-- The rows of these ordinals lie in new memory, from the block B on. -/
def RowsT (B : Nat) (w : World) (vs : List Value) (ts : List T) : Prop :=
  vs.length = ts.length ∧ ∀ (i : Nat) (t : T), ts[i]? = some t → ∃ g c, vs[i]? = some (.slice (some ⟨g, 0, none⟩) t.enc.length c) ∧ B ≤ g ∧ t.enc.length ≤ c ∧ c ≤ maxLen ∧ At w g 0 t.enc ∧ ∃ cur, w.heap[g]? = some (.cells cur 3 (0, 0))
theorem RowsT.nil (B : Nat) (w : World) : RowsT B w [] [] := ⟨rfl, fun i t h => by simp at h⟩
theorem RowsT.snoc {B : Nat} {w : World} {vs : List Value} {ts : List T} (h : RowsT B w vs ts) {g c : Nat} {t : T} (h1 : B ≤ g) (h2 : t.enc.length ≤ c) (h3 : c ≤ maxLen) (h4 : At w g 0 t.enc) (h5 : ∃ cur, w.heap[g]? = some (.cells cur 3 (0, 0))) :
    RowsT B w (vs ++ [.slice (some ⟨g, 0, none⟩) t.enc.length c]) (ts ++ [t]) := by
  refine ⟨by simp [h.1], fun i u hu => ?_⟩
  rcases Nat.lt_or_ge i ts.length with hi | hi
  · rw [List.getElem?_append_left hi] at hu
    rw [List.getElem?_append_left (by rw [h.1]; exact hi)]
    exact h.2 i u hu
  · rw [List.getElem?_append_right hi] at hu
    rw [List.getElem?_append_right (by rw [h.1]; exact hi)]
    obtain ⟨hlt, hu'⟩ := List.getElem?_eq_some_iff.1 hu
    have hi0 : i - ts.length = 0 := by simp at hlt; omega
    rw [hi0] at hu
    simp at hu
    subst hu
    exact ⟨g, c, by rw [h.1, hi0]; rfl, h1, h2, h3, h4, h5⟩
theorem RowsT.kept {B : Nat} {w w' : World} {vs : List Value} {ts : List T} (h : RowsT B w vs ts) (hk : ∀ g cur, B ≤ g → w.heap[g]? = some (.cells cur 3 (0, 0)) → w'.heap[g]? = w.heap[g]?) : RowsT B w' vs ts := by
  refine ⟨h.1, fun i t ht => ?_⟩
  obtain ⟨g, c, h1, h2, h3, h4, h5, cur, h6⟩ := h.2 i t ht
  have hb := hk g cur h2 h6
  exact ⟨g, c, h1, h2, h3, h4, fun j hj => (World.cell?_of_block hb).trans (h5 j hj), cur, hb.trans h6⟩
theorem RowsT.le {B B' : Nat} {w : World} {vs : List Value} {ts : List T} (h : RowsT B w vs ts) (hB : B' ≤ B) : RowsT B' w vs ts :=
  ⟨h.1, fun i t ht => by
    obtain ⟨g, c, h1, h2, h3⟩ := h.2 i t ht
    exact ⟨g, c, h1, Nat.le_trans hB h2, h3⟩⟩

def FallPost (w : World) (r : Option (List T)) (e : Ending) (w' : World) : Prop :=
  ∃ a n c vs, e = .returned (.tuple #[.slice a n c, .bool r.isSome]) ∧ n = (r.getD []).length ∧ w'.ownsRow w.heap.size 23 1 (.slice a n c) n vs ∧ RowsT w.heap.size w' vs (r.getD []) ∧ Below w.heap.size w w'

theorem nums_of : ∀ {l : List Int}, (∀ v ∈ l, 0 ≤ v ∧ v ≤ 99) → ∃ p : List Num, l = nums p
  | [], _ => ⟨[], rfl⟩
  | v :: l, h => by
    obtain ⟨p, hp⟩ := nums_of (l := l) (fun x hx => h x (List.mem_cons_of_mem _ hx))
    exact ⟨⟨v, h v (List.mem_cons_self ..)⟩ :: p, congrArg (v :: ·) hp⟩

namespace T
theorem fall_nil' (u : T) : fall [] u = some [] := by
  cases u with
  | z => exact fall_z _
  | c a b d => exact fall_nil ..
theorem fall_done {t : T} {ns s : List Int} {u : T} {ls : List T} (h : SF t ns s) (hr : RunL t s u ls) : fall ns t = some ls := by
  obtain ⟨⟨rest, rfl⟩, h⟩ := h
  rw [hr.fall]
  rcases h with (⟨l, hl⟩ | ⟨s', v, u', l, rfl, h1, h2, h3⟩) | ⟨h, _⟩
  · obtain ⟨rfl, rfl⟩ := hr.unique hl
    rw [fall_z]; simp
  · exfalso
    generalize hs : s' ++ [v] = s2 at hr
    cases hr with
    | nil => simp at hs
    | snoc k1 k2 k3 =>
      obtain ⟨e1, e2⟩ := List.append_inj' hs rfl
      subst e1
      cases e2
      obtain ⟨rfl, _⟩ := k1.unique h1
      rw [h3] at k3; cases k3
  · have hr0 : rest = [] := by simpa using h.symm
    rw [hr0, fall_nil']; simp
theorem fall_stop {t : T} {ns s : List Int} (hp : s <+: ns) (h : ∃ s' v u l, s = s' ++ [v] ∧ RunL t s' u l ∧ u ≠ z ∧ vldB (u.step v).enc = false) : fall ns t = none := by
  obtain ⟨rest, rfl⟩ := hp
  obtain ⟨s', v, u, l, rfl, h1, h2, h3⟩ := h
  rw [List.append_assoc, h1.fall, List.singleton_append, fall_s v rest h2, if_neg (by rw [h3]; decide)]
  rfl
theorem fallP_good {t : T} {ns : List Int} (h1 : vldB t.enc = true) (h2 : ns.length ≤ 3000) (h3 : ∀ v ∈ ns, 0 ≤ v ∧ v ≤ 99) : fallP t.enc ns = fall ns t := by
  rw [fallP, if_pos ⟨h1, h2, h3⟩, of_enc]
theorem fallP_bad {xs ns : List Int} (h : vldB xs = false ∨ 3000 < ns.length ∨ ∃ v ∈ ns, ¬ (0 ≤ v ∧ v ≤ 99)) : fallP xs ns = none := by
  rw [fallP, if_neg]
  rintro ⟨h1, h2, h3⟩
  rcases h with h | h | ⟨v, hv, h⟩
  · rw [h] at h1; cases h1
  · omega
  · exact h (h3 v hv)
end T

/-- Between two rounds of OrdFall's loop. -/
def FlI (t : T) (w : World) (q s3 M : Nat) (s : List Int) (W : World) : Prop :=
  s.length ≤ M ∧ Boxed W w.heap.size 36 (.slice none 0 0) ∧ Boxed W (w.heap.size + 1) 4 (.bool false) ∧ Below w.heap.size w W ∧
    ∃ u l vs a n c, T.RunL t s u l ∧ n = l.length ∧ Boxed W s3 36 (.slice a n c) ∧ W.ownsRow q 23 1 (.slice a n c) n vs ∧ RowsT q W vs l
def FlX (t : T) (w : World) (c : Code) (s : List Int) (W : World) : Prop :=
  c = .ret ∧ (∃ s' v u l, s = s' ++ [v] ∧ T.RunL t s' u l ∧ u ≠ .z ∧ T.vldB (u.step v).enc = false) ∧ Boxed W w.heap.size 36 (.slice none 0 0) ∧ Boxed W (w.heap.size + 1) 4 (.bool false) ∧ Below w.heap.size w W

theorem not_row_of {A : World} {q g : Nat} {row : Option Nat} (hr : ∀ r, row = some r → r < q ∨ ∃ o : Obj, A.heap[r]? = some o ∧ o.isCells = false) (hq : q ≤ g) {cur : Array Value} {e : TypeId} {fr : Nat × Nat} (hc : A.heap[g]? = some (.cells cur e fr)) : some g ≠ row := by
  intro h
  rcases hr g h.symm with k | ⟨o, ho, hc'⟩
  · omega
  · rw [hc] at ho
    cases ho
    cases hc'
theorem ownsRow_keptL {A C : World} {q : Nat} {e : TypeId} {size n : Nat} {v : Value} {xs : List Value} {row : Option Nat} (h : A.ownsRow q e size v n xs) (hg : A.grownBy C row) (hr : ∀ r, row = some r → r < q ∨ ∃ o : Obj, A.heap[r]? = some o ∧ o.isCells = false) :
    C.ownsRow q e size v n xs := by
  refine h.kept hg ?_
  rcases h.2 with ⟨rfl, _⟩ | ⟨g, cap, _, rfl, hgq, hgb, _⟩
  · exact .inl rfl
  · exact .inr (not_row_of hr hgq hgb)
theorem RowsT.keptL {A C : World} {q : Nat} {vs : List Value} {ts : List T} {row : Option Nat} (h : RowsT q A vs ts) (hg : A.grownBy C row) (hr : ∀ r, row = some r → r < q ∨ ∃ o : Obj, A.heap[r]? = some o ∧ o.isCells = false) : RowsT q C vs ts :=
  h.kept (fun _ _ hq hc => hg.block _ (Array.getElem?_eq_some_iff.1 hc).1 (not_row_of hr hq hc))

theorem KQ.refl (lo hi q : Nat) (ty : TypeId) (W : World) : KQ lo hi q ty W W := ⟨rfl, rfl, rfl, Nat.le_refl _, fun _ _ _ => rfl⟩
theorem KQ.setCell {lo hi q : Nat} {ty : TypeId} {W W' : World} (h : KQ lo hi q ty W W') (b : Nat) (v : Value) (hb : lo ≤ b ∧ b < hi) : KQ lo hi q ty W (W'.setCell ⟨b, 0, none⟩ v) :=
  ⟨h.os, h.tape, h.output, Nat.le_trans h.size (grownBy_setCell' _ _ _).size, fun k hk hf => ((grownBy_setCell' W' b v).block k (Nat.lt_of_lt_of_le hk h.size) (fun e => hf (.inl (by cases e; exact hb)))).trans (h.block k hk hf)⟩

/-- What the body of the loop does to the row of rows. -/
theorem fall_appended {W w5 : World} {q s3 n m : Nat} {v v' : Value} {vs ys : List Value} {tmp : Obj} {lo : Nat} (hlo : lo ≤ s3) (b8 : Boxed W s3 36 v) (hown : W.ownsRow q 23 1 v n vs) (hown' : w5.ownsRow q 23 1 v' m ys) (hg : (W.alloc tmp).grownBy w5 v.ownBlock) :
    KQ lo (s3 + 1) q 23 W (w5.setCell ⟨s3, 0, none⟩ v') ∧ Boxed (w5.setCell ⟨s3, 0, none⟩ v') s3 36 v' ∧ (w5.setCell ⟨s3, 0, none⟩ v').ownsRow q 23 1 v' m ys := by
  have hv1 : Boxed w5 s3 36 v := (b8.alloc tmp).kept hg (b8.not_row (by decide) hown)
  have hsz : (w5.setCell ⟨s3, 0, none⟩ v').heap.size = w5.heap.size := by simp [World.setCell]
  have hs5 := hg.size
  rw [World.size_alloc] at hs5
  refine ⟨⟨hg.os, hg.tape, hg.output, by omega, fun b hb hf => ?_⟩, hv1.set v', hown'.kept (grownBy_setCell' w5 s3 v') (.inr (hv1.not_row (by decide) hown').symm)⟩
  have hb3 : b ≠ s3 := fun e => hf (.inl ⟨by omega, by omega⟩)
  refine ((grownBy_setCell' w5 s3 v').block b (by omega) (fun e => hb3 (Option.some.inj e))).trans ((hg.block b (by rw [World.size_alloc]; omega) (fun e => ?_)).trans (Below.heap_alloc _ _ _ hb))
  rcases hown.2 with ⟨rfl, _⟩ | ⟨g, cap, cur, rfl, hgq, hgb, _⟩
  · cases e
  · cases e
    exact hf (.inr ⟨hgq, cur, _, hgb⟩)

theorem values_any (a : Option Addr) (n c : Nat) (w : World) :
    Calls Try.prog 59 #[.slice a n c] w fun e w' => e = .returned (.func (.func 79) #[] #[.pointer (some ⟨w.heap.size, 0, none⟩)]) ∧
      w' = w.alloc (.cells #[.slice a n c] 23) := by
  go_enter Try.func59, Try.ntmps59
  go_wp2
  go_ret
  exact ⟨rfl, rfl⟩

/-- The two results lie in cells. -/
theorem fall_out {W : World} {n : Nat} {tmps : Array Value} {c4 c5 : Nat} {a : Option Addr} {m c : Nat} {y : Bool} (ht4 : tmps[4]?.getD undef = .pointer (some ⟨c4, 0, none⟩)) (ht5 : tmps[5]?.getD undef = .pointer (some ⟨c5, 0, none⟩))
    (h4 : W.cell? ⟨c4, 0, none⟩ = some (.slice a m c)) (h5 : W.cell? ⟨c5, 0, none⟩ = some (.bool y)) {R : Ending → World → Prop} (hR : R (.returned (.tuple #[.slice a m c, .bool y])) W) :
    LeavesInM Fence.wide n Try.prog Try.f22 tmps R [] .returning W := by
  refine ⟨_, ?_, hR⟩
  simp [results, Try.f22, go_sem, ht4, ht5, h4, h5]

theorem fallPost_none {w W : World} (hb : Below w.heap.size w W) : FallPost w none (.returned (.tuple #[.slice none 0 0, .bool false])) W :=
  ⟨none, 0, 0, [], rfl, rfl, World.ownsRow_nil _ _ _ _, RowsT.nil _ _, hb⟩

set_option maxRecDepth 100000 in
set_option maxHeartbeats 4000000 in
theorem impl_OrdFall_bad (ao a2 : Option Addr) (len cap len2 cap2 : Nat) (xs ns : List Int) (w : World) (h : Sl w ao len cap xs) (h2 : Sl w a2 len2 cap2 ns) (hbad : T.vldB xs = false ∨ 3000 < len2) :
    Calls Try.prog 22 #[.slice ao len cap, .slice a2 len2 cap2] w (FallPost w none) := by
  have hw2 : Below w.heap.size w ((w.alloc (.cells #[.slice none 0 0] 36)).alloc (.cells #[.bool false] 4)) := ((Below.refl _ _).alloc (Nat.le_refl _) _).alloc (by simp) _
  obtain ⟨w2, hww⟩ : ∃ w2, w2 = (w.alloc (.cells #[.slice none 0 0] 36)).alloc (.cells #[.bool false] 4) := ⟨_, rfl⟩
  have hs2 : w2.heap.size = w.heap.size + 2 := by rw [hww]; simp
  have hx4 : Boxed w2 w.heap.size 36 (.slice none 0 0) := by rw [hww]; exact (Boxed.new w _ _).alloc _
  have hx5 : Boxed w2 (w.heap.size + 1) 4 (.bool false) := by
    have h := Boxed.new (w.alloc (.cells #[.slice none 0 0] 36)) 4 (.bool false)
    rw [World.size_alloc] at h
    rw [hww]; exact h
  rw [← hww] at hw2
  have HWW := Lib.hid hww.symm
  have hln := h2.1
  have hm2 := h2.2.2.1
  have h9 : maxLen = 4611686018427387903 ∨ True := .inr trivial
  clear hww
  refine (callsIn_wide (n := 20)).1 ?_
  rcases vld_tf xs with h1 | h1
  · have k1 := Lib.hid (impl_valid ao len cap xs w2 (h.below hw2) h1)
    have hlt : 3000 < len2 := by
      rcases hbad with h | h
      · rw [h1] at h; cases h
      · exact h
    clear h h1 h2 hbad
    refine callsIn_of_wp_marks Try.func22 rfl trivial ?_ rfl
    simp only [Try.ntmps22, List.size_toArray, List.length_cons, List.length_nil, Nat.reduceAdd, Nat.reduceSub, Array.replicate_succ, Array.replicate_zero, List.push_toArray, List.append_toArray, List.nil_append, List.cons_append]
    gi_wp2
    rw [HWW.out]
    refine ⟨trivial, (callsIn_wide.2 k1.out).mono ?_⟩
    rintro ee w3 ⟨rfl, hb3⟩
    have hl4 : w.heap.size < w2.heap.size := by omega
    have hl5 : w.heap.size + 1 < w2.heap.size := by omega
    have z4 := (hb3.cell (p := ⟨w.heap.size, 0, none⟩) hl4).trans hx4.cell
    have z5 := (hb3.cell (p := ⟨w.heap.size + 1, 0, none⟩) hl5).trans hx5.cell
    have f4 : w3.frozen? ⟨w.heap.size, 0, none⟩ = false := (World.frozen?_of_block (hb3.block _ hl4)).trans hx4.frozen
    have f5 : w3.frozen? ⟨w.heap.size + 1, 0, none⟩ = false := (World.frozen?_of_block (hb3.block _ hl5)).trans hx5.frozen
    have Hb3 := Lib.hid (hw2.trans (hb3.mono hw2.size))
    clear hb3
    gi_wp2
    obtain ⟨y4, y5⟩ := two_set z4 z5 (.slice none 0 0) (.bool false)
    exact fall_out rfl rfl y4 y5 (fallPost_none (below_two Hb3.out _ _))
  · have k1 := Lib.hid (impl_valid ao len cap xs w2 (h.below hw2) h1)
    clear h h1 h2 hbad
    refine callsIn_of_wp_marks Try.func22 rfl trivial ?_ rfl
    simp only [Try.ntmps22, List.size_toArray, List.length_cons, List.length_nil, Nat.reduceAdd, Nat.reduceSub, Array.replicate_succ, Array.replicate_zero, List.push_toArray, List.append_toArray, List.nil_append, List.cons_append]
    gi_wp2
    rw [HWW.out]
    refine ⟨trivial, (callsIn_wide.2 k1.out).mono ?_⟩
    rintro ee w3 ⟨rfl, hb3⟩
    have hl4 : w.heap.size < w2.heap.size := by omega
    have hl5 : w.heap.size + 1 < w2.heap.size := by omega
    have z4 := (hb3.cell (p := ⟨w.heap.size, 0, none⟩) hl4).trans hx4.cell
    have z5 := (hb3.cell (p := ⟨w.heap.size + 1, 0, none⟩) hl5).trans hx5.cell
    have f4 : w3.frozen? ⟨w.heap.size, 0, none⟩ = false := (World.frozen?_of_block (hb3.block _ hl4)).trans hx4.frozen
    have f5 : w3.frozen? ⟨w.heap.size + 1, 0, none⟩ = false := (World.frozen?_of_block (hb3.block _ hl5)).trans hx5.frozen
    have Hb3 := Lib.hid (hw2.trans (hb3.mono hw2.size))
    clear hb3
    gi_wp2
    obtain ⟨y4, y5⟩ := two_set z4 z5 (.slice none 0 0) (.bool false)
    exact fall_out rfl rfl y4 y5 (fallPost_none (below_two Hb3.out _ _))

set_option maxRecDepth 100000 in
set_option maxHeartbeats 4000000 in
theorem impl_OrdFall_good (b off len cap : Nat) (a2 : Option Addr) (len2 cap2 : Nat) (t : T) (ns : List Int) (w : World) (hat : At w b off t.enc) (hl : len = t.enc.length) (hc : len ≤ cap) (hm : cap ≤ maxLen) (h1 : T.vldB t.enc = true) (h2 : Sl w a2 len2 cap2 ns) (h3 : len2 ≤ 3000) :
    Calls Try.prog 22 #[.slice (some ⟨b, off, none⟩) len cap, .slice a2 len2 cap2] w (FallPost w (T.fallP t.enc ns)) := by
  have hw2 : Below w.heap.size w ((w.alloc (.cells #[.slice none 0 0] 36)).alloc (.cells #[.bool false] 4)) := ((Below.refl _ _).alloc (Nat.le_refl _) _).alloc (by simp) _
  obtain ⟨w2, hww⟩ : ∃ w2, w2 = (w.alloc (.cells #[.slice none 0 0] 36)).alloc (.cells #[.bool false] 4) := ⟨_, rfl⟩
  have hs2 : w2.heap.size = w.heap.size + 2 := by rw [hww]; simp
  have hx4 : Boxed w2 w.heap.size 36 (.slice none 0 0) := by rw [hww]; exact (Boxed.new w _ _).alloc _
  have hx5 : Boxed w2 (w.heap.size + 1) 4 (.bool false) := by
    have h := Boxed.new (w.alloc (.cells #[.slice none 0 0] 36)) 4 (.bool false)
    rw [World.size_alloc] at h
    rw [hww]; exact h
  rw [← hww] at hw2
  have HWW := Lib.hid hww.symm
  clear hww
  refine (callsIn_wide (n := 20)).1 ?_
  have hbw : b < w.heap.size := hat.lt (T.enc_ne t)
  have hsl1 : Sl w2 (some ⟨b, off, none⟩) len cap t.enc := Sl.below ⟨hl.symm, hc, hm, fun _ => ⟨b, off, rfl, hat⟩⟩ hw2
  have k1 := Lib.hid (impl_valid (some ⟨b, off, none⟩) len cap t.enc w2 hsl1 h1)
  have HAT := Lib.hid hat
  have HN := Lib.hid hl
  have H1 := Lib.hid h1
  have H2 := Lib.hid h2
  have h2b : ∀ g o, a2 = some ⟨g, o, none⟩ → 0 < len2 → g < w.heap.size := fun g o e h0 => by
    obtain ⟨g', o', e', hat'⟩ := h2.2.2.2 h0
    rw [e] at e'
    cases e'
    exact World.block_lt_of_cell? w _ (hat' 0 (by rw [h2.1]; exact h0))
  have H2B := Lib.hid h2b
  clear h1 hat hl h2 hsl1 h2b
  refine callsIn_of_wp_marks Try.func22 rfl trivial ?_ rfl
  simp only [Try.ntmps22, List.size_toArray, List.length_cons, List.length_nil, Nat.reduceAdd, Nat.reduceSub, Array.replicate_succ, Array.replicate_zero, List.push_toArray, List.append_toArray, List.nil_append, List.cons_append]
  gi_wp2
  rw [HWW.out]
  refine ⟨trivial, (callsIn_wide.2 k1.out).mono ?_⟩
  rintro ee w3 ⟨rfl, hb3⟩
  have hl4 : w.heap.size < w2.heap.size := by omega
  have hl5 : w.heap.size + 1 < w2.heap.size := by omega
  have x4 : Boxed w3 w.heap.size 36 (.slice none 0 0) := Boxed.below hx4 hb3 hl4
  have x5 : Boxed w3 (w.heap.size + 1) 4 (.bool false) := Boxed.below hx5 hb3 hl5
  have z4 := x4.cell
  have z5 := x5.cell
  have f4 := x4.frozen
  have f5 := x5.frozen
  have Hb3 := Lib.hid (hw2.trans (hb3.mono hw2.size))
  have hs3 : w.heap.size + 2 ≤ w3.heap.size := by have := hb3.size; omega
  have X4 := Lib.hid x4
  have X5 := Lib.hid x5
  clear hb3 x4 x5
  gi_wp2
  gi_loopw [21] (fun i wr => ∃ k : Nat, k ≤ len2 ∧ i = .int .i64 k ∧ wr = w3 ∧ ∀ v ∈ ns.take k, 0 ≤ v ∧ v ≤ 99)
    (fun i _ => len2 - (intOf i).toNat)
  case atStart => exact ⟨0, Nat.zero_le _, rfl, rfl, fun v hv => by simp at hv⟩
  case round =>
    obtain ⟨k, hk, rfl, rfl, hall⟩ := hrel
    have HALL := Lib.hid hall
    clear hall
    by_cases hlt : k < len2
    · obtain ⟨g, o, hae, hat2⟩ := H2.out.2.2.2 (by omega)
      have hkn : k < ns.length := by rw [H2.out.1]; exact hlt
      obtain ⟨x, hx⟩ : ∃ x, x = ns[k] := ⟨_, rfl⟩
      have hxc : wr.cell? ⟨g, o + k, none⟩ = some (.int .i64 x) := by
        have hb := H2B.out g o hae (by omega)
        refine (Hb3.out.cell (p := ⟨g, o + k, none⟩) hb).trans ?_
        rw [hat2 k hkn, hx]
        simp [hkn]
      have htk : ns.take (k + 1) = ns.take k ++ [x] := by rw [hx, List.take_succ_eq_append_getElem hkn]
      have Htk := Lib.hid htk
      have Hxm := Lib.hid (show x ∈ ns by rw [hx]; exact List.getElem_mem hkn)
      have hcap := H2.out.2.1
      subst hae
      clear hx htk hat2 hkn
      by_cases hv : 0 ≤ x ∧ x ≤ 99
      · have ks := Lib.hid (isStepNumber_any x)
        have hkt : decide (0 ≤ x ∧ x ≤ 99) = true := decide_eq_true hv
        rw [hkt] at ks
        have HV := Lib.hid hv
        clear hkt hv
        gi_wp2
        refine ⟨trivial, (callsIn_wide.2 (ks.out _)).mono ?_⟩
        rintro ee wx ⟨rfl, rfl⟩
        gi_wp2
        go_roundw
        case rel => exact ⟨k + 1, by omega, by simp, by trivial, fun v hv => by
          rw [Htk.out, List.mem_append] at hv
          rcases hv with hv | hv
          · exact HALL.out v hv
          · simp at hv
            subst hv
            exact HV.out⟩
        case measure => simp [intOf]; omega
      · have ks := Lib.hid (isStepNumber_any x)
        have hkt : decide (0 ≤ x ∧ x ≤ 99) = false := decide_eq_false hv
        rw [hkt] at ks
        have HV := Lib.hid hv
        clear hkt hv
        gi_wp2
        refine ⟨trivial, (callsIn_wide.2 (ks.out _)).mono ?_⟩
        rintro ee wx ⟨rfl, rfl⟩
        gi_wp2
        obtain ⟨y4, y5⟩ := two_set z4 z5 (.slice none 0 0) (.bool false)
        rw [T.fallP_bad (.inr (.inr ⟨x, Hxm.out, HV.out⟩))]
        exact fall_out rfl rfl y4 y5 (fallPost_none (below_two Hb3.out _ _))
    · obtain rfl : k = len2 := by omega
      have hall : ∀ v ∈ ns, 0 ≤ v ∧ v ≤ 99 := by
        have h := HALL.out
        rw [← H2.out.1, List.take_length] at h
        exact h
      obtain ⟨p, hp⟩ := nums_of hall
      have HP := Lib.hid hp
      have HALL2 := Lib.hid hall
      clear hp hall
      gi_wp2
      refine ⟨trivial, (callsIn_wide.2 (values_any _ _ _ _)).mono ?_⟩
      rintro ee wr ⟨rfl, rfl⟩
      gi_wp2
      refine ⟨trivial, (callsIn_wide.2 (stepsFrom_any _ _ _ _ _ _)).mono ?_⟩
      rintro ee ws ⟨rfl, rfl⟩
      gi_wp2
      have HFP := Lib.hid (T.fallP_good H1.out (by rw [H2.out.1]; exact h3) HALL2.out)
      rw [HFP.out]
      obtain ⟨s3, hs3e⟩ : ∃ s3, s3 = wr.heap.size := ⟨_, rfl⟩
      rw [← hs3e]
      obtain ⟨W0, hW0⟩ : ∃ W0, W0 = ((((wr.alloc (.cells #[.slice none 0 0] 36)).alloc (.cells #[.slice a2 k cap2] 23)).alloc (.cells #[.slice (some ⟨b, off, none⟩) len cap] 23)).alloc (.cells #[.func (.func 79) #[] #[.pointer (some ⟨s3 + 1, 0, none⟩)]] 60)) := ⟨_, rfl⟩
      rw [← hW0]
      have hsz : W0.heap.size = s3 + 4 := by rw [hW0, hs3e]; simp
      have hb30 : Below wr.heap.size wr W0 := by
        rw [hW0]
        exact ((((Below.refl _ _).alloc (Nat.le_refl _) _).alloc (by simp) _).alloc (by simp; omega) _).alloc (by simp; omega) _
      have e8 : Boxed W0 s3 36 (.slice none 0 0) := by rw [hW0]; exact (((box_at _ _ hs3e.symm).alloc _).alloc _).alloc _
      have eS : Boxed W0 (s3 + 1) 23 (.slice a2 k cap2) := by rw [hW0]; exact ((box_at _ _ (by rw [hs3e]; simp)).alloc _).alloc _
      have eO : Boxed W0 (s3 + 1 + 1) 23 (.slice (some ⟨b, off, none⟩) len cap) := by rw [hW0]; exact (box_at _ _ (by rw [hs3e]; simp)).alloc _
      have eF : Boxed W0 (s3 + 1 + 1 + 1) 60 (.func (.func 79) #[] #[.pointer (some ⟨s3 + 1, 0, none⟩)]) := by rw [hW0]; exact box_at _ _ (by rw [hs3e]; simp)
      have hs3g : w.heap.size + 2 ≤ s3 := by rw [hs3e]; exact hs3
      have e4 : Boxed W0 w.heap.size 36 (.slice none 0 0) := Boxed.below X4.out hb30 (by omega)
      have e5 : Boxed W0 (w.heap.size + 1) 4 (.bool false) := Boxed.below X5.out hb30 (by omega)
      have hbw0 : Below w.heap.size w W0 := Hb3.out.trans (hb30.mono (by omega))
      have hat0 : At W0 b off t.enc := HAT.out.below hbw0 hbw
      have hsl0 : Sl W0 a2 k cap2 (nums p) := by rw [← HP.out]; exact H2.out.below hbw0
      have h2b0 : ∀ g o, a2 = some ⟨g, o, none⟩ → 0 < k → g < W0.heap.size ∧ (g < w.heap.size ∨ s3 + 1 ≤ g) := fun g o e h0 => by
        have := H2B.out g o e h0
        exact ⟨by omega, .inl this⟩
      clear hW0 hb30 hs3e z4 z5 f4 f5 hs3
      have hseq := stepsFrom1_seqL 19 p w.heap.size (s3 + 1) (W0.heap.size + 4) (W0.heap.size + 4) (s3 + 1 + 1) (s3 + 1 + 1 + 1) (s3 + 1) b off len cap k cap2 a2 t W0 (by omega) h3 (by omega) (Nat.le_refl _) (Nat.le_refl _)
        ⟨by omega, .inr (by omega)⟩ ⟨by omega, .inr (by omega)⟩ ⟨by omega, .inr (by omega)⟩ (.inl hbw) eO.cell eF.cell eS.cell hsl0 h2b0 HN.out hc hm hat0 H1.out
      obtain ⟨q, hq⟩ : ∃ q, q = W0.heap.size + 4 := ⟨_, rfl⟩
      rw [← hq] at hseq
      have hq1 : W0.heap.size + 4 ≤ q := Nat.le_of_eq hq.symm
      have hq2 : q ≤ W0.heap.size + 4 := Nat.le_of_eq hq
      have hz1 : s3 + 4 ≤ W0.heap.size := Nat.le_of_eq hsz.symm
      have h00 : FlI t w q s3 k [] W0 := ⟨Nat.zero_le _, e4, e5, hbw0, t, [], [], none, 0, 0, .nil, rfl, e8, World.ownsRow_nil _ _ _ _, RowsT.nil _ _⟩
      have Hseq := Lib.hid hseq
      clear hseq eO eF eS e8 e4 e5 hat0 hsl0 h2b0 hq hsz
      obtain ⟨j0, hj, hy0, hy1, hy2⟩ := info_parts info_ints
      refine wpIn_rangeL rfl (by omega) (gf := 78) (lb := #[.pointer (some ⟨s3 + 1 + 1, 0, none⟩), .pointer (some ⟨s3 + 1 + 1 + 1, 0, none⟩)]) rfl trivial (enters_of Try.func78 (by kernel_rfl) rfl)
        Hseq.out (by omega) (by omega) (fun _ => rfl) (fun i x W l o o' hg _ ho hc => by
          obtain ⟨g1, u, ls, g2, g3, g4, g5, g6⟩ := hg
          exact ⟨g1, u, ls, g2, g3, g4, g5, ownsRow_putObj g6 o' ho hc⟩) (FlI t w q s3 k) (FlX t w) ?hI ?hIx h00
        (fun x => { tmps := #[.slice (some ⟨b, off, none⟩) len cap, .slice a2 k cap2, undef, undef, .pointer (some ⟨w.heap.size, 0, none⟩), .pointer (some ⟨w.heap.size + 1, 0, none⟩), undef, u7, .pointer (some ⟨s3, 0, none⟩), .slice x.1.1 x.1.2.1 x.1.2.2.1, .bool x.1.2.2.2, .slice (some ⟨b, off, none⟩) len cap, .bool true, .bool false, .bool false, .slice a2 k cap2, .int .i64 k, .bool (decide (3000 < (k : Int))), .bool (decide (3000 < (k : Int))), .slice a2 k cap2, .int .i64 k, .int .i64 k, .bool false, u23, u24, u25, u26, u27, u28, .slice (some ⟨b, off, none⟩) len cap, .slice a2 k cap2, .func (.func 79) #[] #[.pointer (some ⟨s3 + 1, 0, none⟩)], .func (.func 78) #[] #[.pointer (some ⟨s3 + 1 + 1, 0, none⟩), .pointer (some ⟨s3 + 1 + 1 + 1, 0, none⟩)], .slice x.1.1 x.1.2.1 x.1.2.2.1, .bool x.1.2.2.2, undef, undef, undef, undef, undef, undef, undef], defers := [] }) ?assign ?body ?done ?stop
      case assign =>
        rintro l ⟨⟨xa, xn, xc, xo⟩, xv⟩ W K hK
        dsimp only [encsF, encsH] at hK ⊢
        gi_wp2
        exact hK
      case hI =>
        rintro s A C row ⟨hsM, b4, b5, hb, u, ls, vs, a, n, c, hru, hn, b8, hown, hrows⟩ hg hr
        have hup : ∀ r, row = some r → W0.heap.size ≤ r := fun r e => (hr r e).1
        have hr' : ∀ r, row = some r → r < q ∨ ∃ o : Obj, A.heap[r]? = some o ∧ o.isCells = false := fun r e => (hr r e).2.imp (fun h => by omega) id
        exact ⟨hsM, b4.kept hg (fun e => by have := hup _ e.symm; omega), b5.kept hg (fun e => by have := hup _ e.symm; omega), hb.grown hg hb.size (fun k e => by have := hup k e; omega), u, ls, vs, a, n, c, hru, hn, b8.kept hg (fun e => by have := hup _ e.symm; omega), ownsRow_keptL hown hg hr', hrows.keptL hg hr'⟩
      case hIx =>
        rintro c s A C row ⟨hc', h2, b4, b5, hb⟩ hg hr
        have hup : ∀ r, row = some r → W0.heap.size ≤ r := fun r e => (hr r e).1
        exact ⟨hc', h2, b4.kept hg (fun e => by have := hup _ e.symm; omega), b5.kept hg (fun e => by have := hup _ e.symm; omega), hb.grown hg hb.size (fun k e => by have := hup k e; omega)⟩
      case body =>
        rintro l s ⟨⟨xa, xn, xc, xo⟩, xv⟩ Wr hl' ⟨hsM, b4, b5, hb, u, ls, vs, a, n, c, hru, hn, b8, hown, hrows⟩ ⟨hlt', u', ls', hru', hnz, hxn, hxo, hxown⟩
        dsimp only at hxn hxo hxown ⊢
        obtain ⟨rfl, rfl⟩ := hru.unique hru'
        have z4 := b4.cell
        have z5 := b5.cell
        have z8 := b8.cell
        have f4 := b4.frozen
        have f5 := b5.frozen
        have f8 := b8.frozen
        have hnk : n < k := by rw [hn, hru.len]; exact hlt'
        have HB := Lib.hid hb
        have Hown := Lib.hid hown
        have Hrows := Lib.hid hrows
        have Hn := Lib.hid hn
        have HRU := Lib.hid hru
        have HNZ := Lib.hid hnz
        have Hxn := Lib.hid hxn
        have Hxown := Lib.hid hxown
        have B4 := Lib.hid b4
        have B5 := Lib.hid b5
        have B8 := Lib.hid b8
        have HLT := Lib.hid hlt'
        clear hb hown hrows hn hru hru' hnz hxn hxown b4 b5 b8 hlt' hsM
        cases hxo2 : xo with
        | false =>
          have HXO := Lib.hid (hxo.symm.trans hxo2)
          clear hxo hxo2
          gi_wp2
          exact ⟨((KQ.refl _ _ _ _ _).setCell _ _ ⟨Nat.le_refl _, by omega⟩).setCell _ _ ⟨by omega, by omega⟩, rfl, ⟨s, xv, u, ls, rfl, HRU.out, HNZ.out, HXO.out⟩, (B4.out.set _).other (by omega) _, (B5.out.other (by omega) _).set _, below_two HB.out _ _⟩
        | true =>
          have hvn : T.vldB (u.step xv).enc = true := hxo.symm.trans hxo2
          have hfe : T.fit (u.step xv) = (u.step xv).enc := by rw [T.fit, if_pos hvn]
          have hown2 := Hxown.out
          have hxn := Hxn.out
          rw [hfe] at hown2 hxn
          subst hxn
          have hty2 : ∃ g cur, xa = some ⟨g, 0, none⟩ ∧ Wr.heap[g]? = some (.cells cur 3 (0, 0)) := by
            obtain ⟨_, ⟨h, h0⟩ | ⟨g, cap', cur, h, _, h2, _⟩⟩ := hown2
            · have := T.enc_len (u.step xv); omega
            · cases h
              exact ⟨g, cur, rfl, h2⟩
          obtain ⟨g2, cur2, rfl, hcur2⟩ := hty2
          obtain ⟨g2', he2, hg2, hatn, hcn, hcmn⟩ := own_rowT hown2
          cases he2
          have hg2l : g2 < Wr.heap.size := hatn.lt (T.enc_ne _)
          have HVN := Lib.hid hvn
          have HCur := Lib.hid hcur2
          have HAT2 := Lib.hid hatn
          clear hxo hxo2 hvn hfe hown2 hcur2 hatn
          gi_wp2_with (gi_at_builtin; go_loud (refine wpListIn_append_own _ rfl (.tmp 37) (.tmp 39) 36 rfl q 23 j0 (.slice none 0 0) 1 24 Try.underlying36 hj hy0 hy1 hy2 rfl (by decide) _ n vs rfl (Hown.out.alloc _) ⟨Wr.heap.size, 0, none⟩ 1 1 [.slice (some ⟨g2, 0, none⟩) (u.step xv).enc.length xc] rfl rfl (cell_one_new _ _ _) (slice_oneCell _ _ _) (by unfold maxLen; omega) (by omega) (by simp; omega) ?_); intro v1 w5 ho1 hg1 _; obtain ⟨g5, c5, rfl⟩ := ownsRow_succ ho1; have y8 : Boxed w5 s3 36 (.slice a n c) := (B8.out.alloc _).kept hg1 (B8.out.not_row (by decide) Hown.out); have y8c := y8.cell; have y8f := y8.frozen; have Ho1 := Lib.hid ho1; have Hg1 := Lib.hid hg1; clear ho1 hg1 y8)
          obtain ⟨hkq, hb8', hown'⟩ := fall_appended (lo := w.heap.size) (by omega) B8.out Hown.out Ho1.out Hg1.out
          have hint : ∀ g cur, q ≤ g → Wr.heap[g]? = some (.cells cur 3 (0, 0)) → (w5.setCell ⟨s3, 0, none⟩ (.slice (some ⟨g5, 0, none⟩) (n + 1) c5)).heap[g]? = Wr.heap[g]? := fun g cur h1 h2 => hkq.block g (Array.getElem?_eq_some_iff.1 h2).1 (fun h => by
            rcases h with h | ⟨_, cs, fr, h⟩
            · omega
            · rw [h2] at h
              cases h)
          have hb2 := hint g2 cur2 hg2 HCur.out
          refine ⟨hkq, ?_, ((B4.out.alloc _).kept Hg1.out (B4.out.not_row (by decide) Hown.out)).other (by omega) _, ((B5.out.alloc _).kept Hg1.out (B5.out.not_row (by decide) Hown.out)).other (by omega) _, ?_, u.step xv, ls ++ [u.step xv], vs ++ [.slice (some ⟨g2, 0, none⟩) (u.step xv).enc.length xc], some ⟨g5, 0, none⟩, n + 1, c5, .snoc HRU.out HNZ.out HVN.out, by simp [Hn.out], hb8', hown', ?_⟩
          · have := HLT.out
            simp [nxF]; omega
          · exact ((HB.out.alloc (by omega) _).grown Hg1.out (by simp; omega) (fun j ej => by have := (Hown.out.lt j ej).1; omega)).setCell (p := ⟨s3, 0, none⟩) (by show w.heap.size ≤ s3; omega) _
          · exact (Hrows.out.kept hint).snoc hg2 hcn hcmn (fun j hj => (World.cell?_of_block hb2).trans (HAT2.out j hj)) ⟨cur2, hb2.trans HCur.out⟩
      case done =>
        rintro D s Wd hD hS ⟨hsM, b4, b5, hb, u, ls, vs, a, n, c, hru, hn, b8, hown, hrows⟩ hK
        have z4 := b4.cell
        have z5 := b5.cell
        have z8 := b8.cell
        have f4 := b4.frozen
        have f5 := b5.frozen
        have f8 := b8.frozen
        have Hres := Lib.hid (T.fall_done hS hru)
        have HK := Lib.hid hK
        have HB := Lib.hid hb
        have Hown := Lib.hid hown
        have Hrows := Lib.hid hrows
        have Hn := Lib.hid hn
        have hl4 : w.heap.size ≠ D := by have := b4.lt; omega
        have hl5 : w.heap.size + 1 ≠ D := by have := b5.lt; omega
        have hDl : D < Wd.heap.size := (Array.getElem?_eq_some_iff.1 hK).1
        clear hS hK hb hown hrows hn hru hsM b4 b5 b8
        gi_wp2
        have hres : T.fallP t.enc ns = some ls := HFP.out.trans (by rw [HP.out]; exact Hres.out)
        rw [hres]
        obtain ⟨y4, y5⟩ := two_set z4 z5 (.slice a n c) (.bool true)
        have hsz1 : (Wd.setCell ⟨w.heap.size, 0, none⟩ (.slice a n c)).heap.size = Wd.heap.size := by simp [World.setCell]
        have g1 := grownBy_setCell' Wd w.heap.size (.slice a n c)
        have g2 := grownBy_setCell' (Wd.setCell ⟨w.heap.size, 0, none⟩ (.slice a n c)) (w.heap.size + 1) (.bool true)
        have hK2 : ((Wd.setCell ⟨w.heap.size, 0, none⟩ (.slice a n c)).setCell ⟨w.heap.size + 1, 0, none⟩ (.bool true)).heap[D]? = some (.deferred (some [])) :=
          (g2.block D (by rw [hsz1]; exact hDl) (fun e => hl5 (Option.some.inj e).symm)).trans ((g1.block D hDl (fun e => hl4 (Option.some.inj e).symm)).trans HK.out)
        have g3 := grownBy_putObj' ((Wd.setCell ⟨w.heap.size, 0, none⟩ (.slice a n c)).setCell ⟨w.heap.size + 1, 0, none⟩ (.bool true)) D (.deferred none)
        have r1 : ∀ r, some w.heap.size = some r → r < q ∨ ∃ o : Obj, Wd.heap[r]? = some o ∧ o.isCells = false := fun r e => .inl (by cases e; omega)
        have r2 : ∀ r, some (w.heap.size + 1) = some r → r < q ∨ ∃ o : Obj, (Wd.setCell ⟨w.heap.size, 0, none⟩ (.slice a n c)).heap[r]? = some o ∧ o.isCells = false := fun r e => .inl (by cases e; omega)
        have r3 : ∀ r, some D = some r → r < q ∨ ∃ o : Obj, ((Wd.setCell ⟨w.heap.size, 0, none⟩ (.slice a n c)).setCell ⟨w.heap.size + 1, 0, none⟩ (.bool true)).heap[r]? = some o ∧ o.isCells = false := fun r e => .inr (by cases e; exact ⟨_, hK2, rfl⟩)
        have hbd := below_two HB.out (.slice a n c) (.bool true)
        have hfin := hbd.grown g3 hbd.size (fun k e => by cases e; omega)
        refine ⟨by simp, .inl ⟨_, _, rfl, run_takeDeferred hK2, ?_⟩⟩
        refine fall_out rfl rfl (a := a) (m := n) (c := c) (y := true) ?_ ?_ ⟨a, n, c, vs, rfl, Hn.out, Joins.ownsRow_le (base' := w.heap.size) (ownsRow_keptL (ownsRow_keptL (ownsRow_keptL Hown.out g1 r1) g2 r2) g3 r3) (by omega), (((Hrows.out.keptL g1 r1).keptL g2 r2).keptL g3 r3).le (by omega), hfin⟩
        · exact (World.cell?_of_block (World.putObj_heap_other hl4)).trans y4
        · exact (World.cell?_of_block (World.putObj_heap_other hl5)).trans y5
      case stop =>
        rintro D c s Wd hD hSp ⟨rfl, h2, b4, b5, hb⟩ hK
        have hres := T.fall_stop hSp.1 h2
        rw [← HP.out] at hres
        have y4 : (Wd.putObj D (.deferred none)).cell? ⟨w.heap.size, 0, none⟩ = some (.slice none 0 0) := (b4.kept (grownBy_putObj' Wd D _) (fun e => by have h : w.heap.size = D := Option.some.inj e; omega)).cell
        have y5 : (Wd.putObj D (.deferred none)).cell? ⟨w.heap.size + 1, 0, none⟩ = some (.bool false) := (b5.kept (grownBy_putObj' Wd D _) (fun e => by have h : w.heap.size + 1 = D := Option.some.inj e; omega)).cell
        have hbD : Below w.heap.size w (Wd.putObj D (.deferred none)) := hb.grown (grownBy_putObj' Wd D _) hb.size (fun k e => by cases e; omega)
        have Hres := Lib.hid hres
        clear hres
        gi_wp2
        refine ⟨by simp, .inl ⟨_, _, rfl, run_takeDeferred hK, ?_⟩⟩
        rw [Hres.out]
        exact fall_out rfl rfl y4 y5 (fallPost_none hbD)
end Go.Proofs.Ytdcaefgbpnjjaab

/- DownS -/
/- StepsDown of the model. -/
namespace Go.Proofs.Ytdcaefgbpnjjaab
open Go.RowKit

/-- A row, as a slice. -/
theorem Sl.of_at {w : World} {b off len cap : Nat} {t : T} (hl : len = t.enc.length) (hc : len ≤ cap) (hm : cap ≤ maxLen) (h : At w b off t.enc) : Sl w (some ⟨b, off, none⟩) len cap t.enc :=
  ⟨hl.symm, hc, hm, fun _ => ⟨b, off, rfl, h⟩⟩

def SdRel (v : Int) (t : T) (w : World) (m : Nat) (v0 v6 v7 : Value) (wr : World) : Prop :=
  m ≤ 3001 ∧ T.VU v t m ∧ T.NZ v t m ∧ v7 = .int .i64 m ∧ v6 = .int .i64 (T.ones v t m) ∧ Below w.heap.size w wr ∧
    ∃ bb off c, v0 = .slice (some ⟨bb, off, none⟩) (T.it v t m).enc.length c ∧ (T.it v t m).enc.length ≤ c ∧ c ≤ maxLen ∧ At wr bb off (T.it v t m).enc

set_option maxRecDepth 100000 in
set_option maxHeartbeats 4000000 in
theorem spec_StepsDown (ao : Option Addr) (len cap : Nat) (xs : List Int) (n : Int) (w : World) (h : Sl w ao len cap xs) (hn0 : -9223372036854775808 ≤ n) (hn1 : n ≤ 9223372036854775807) :
    Calls Try.prog 27 #[.slice ao len cap, .int .i64 n] w fun e w' => e = .returned (.tuple #[.int .i64 (T.downS xs n), .int .i64 (T.downO xs n)]) ∧ Below w.heap.size w w' := by
  rcases vld_tf xs with h1 | h1
  · have k1 := Lib.hid (spec_valid ao len cap xs w h h1)
    by_cases hin : 0 ≤ n ∧ n ≤ 99
    · have ks := Lib.hid (fun w => l1In_yes n 0 99 w hin.1 hin.2)
      obtain ⟨b, off, t, rfl, rfl, hs, hos, hat, hn, hl, hp, hc, hm⟩ := h.valid h1
      have HAT := Lib.hid hat
      have HN := Lib.hid hn
      have H1 := Lib.hid h1
      have hN0 := Lib.hid hn0
      have hN1 := Lib.hid hn1
      clear h h1 hos hs hat hn hn0 hn1
      go_enter Try.func27, Try.ntmps27
      go_wp2_with fail
      refine (k1.out).mono ?_
      rintro ee w1 ⟨rfl, hb1⟩
      have hst : SdRel n t w 0 (.slice (some ⟨b, off, none⟩) len cap) (.int .i64 (0 : Nat)) (.int .i64 (0 : Nat)) w1 := by
        refine ⟨Nat.zero_le _, fun j hj => ?_, fun j hj => by omega, rfl, rfl, hb1, b, off, cap, ?_, ?_, hm, HAT.out.below hb1 (HAT.out.lt (T.enc_ne t))⟩
        · obtain rfl : j = 0 := by omega
          exact H1.out
        · rw [show (T.it n t 0).enc.length = len from HN.out.symm]
        · rw [show (T.it n t 0).enc.length = len from HN.out.symm]; exact hc
      have Hst := Lib.hid hst
      clear hb1 hst
      go_wp2_with fail
      refine (ks.out _).mono ?_
      rintro ee wx ⟨rfl, rfl⟩
      go_wp2_with fail
      go_loopw [0, 6, 7] (fun v0 v6 v7 wr => ∃ m, SdRel n t w m v0 v6 v7 wr) (fun _ _ v7 _ => 3001 - (intOf v7).toNat)
      case atStart => exact ⟨0, Hst.out⟩
      case round =>
        obtain ⟨m, hm2, hvu, hnz, rfl, rfl, hb, bb, off', c', rfl, hle, hcm', hata⟩ := hrel
        obtain ⟨tm, htm⟩ : ∃ tm, tm = T.it n t m := ⟨_, rfl⟩
        have hvm := hvu m (Nat.le_refl _)
        rw [← htm] at hle hata hvm ⊢
        obtain ⟨on, hon⟩ : ∃ on, on = T.ones n t m := ⟨_, rfl⟩
        have hob : on ≤ 3001 := by rw [hon]; have := T.ones_le n t m; omega
        rw [← hon]
        have Hon := Lib.hid hon
        have Htm := Lib.hid htm
        have HVU := Lib.hid hvu
        have HNZ := Lib.hid hnz
        have HB := Lib.hid hb
        have HVM := Lib.hid hvm
        obtain ⟨ln, hln⟩ : ∃ ln, ln = tm.enc.length := ⟨_, rfl⟩
        rw [← hln] at hle ⊢
        have HLN := Lib.hid hln
        have hsl := Sl.of_at (t := tm) hln hle hcm' hata
        have kk := Lib.hid (spec_OrdKind (some ⟨bb, off', none⟩) ln c' tm.enc wr hsl)
        rw [T.kindRow, if_pos hvm, T.of_enc] at kk
        have HSL := Lib.hid hsl
        clear hon htm hvu hnz hb hata hvm hln hsl
        by_cases hlt : m ≤ 3000
        · by_cases hz : tm = .z
          · have hl1 : ln = 1 := by rw [HLN.out, hz]; rfl
            have hlb : ((ln : Int) == 1) = true := by rw [hl1]; rfl
            obtain ⟨e1, e2⟩ := T.downP_some H1.out hin (T.down_end HVU.out HNZ.out (by rw [← Htm.out]; exact hz) hlt)
            have E1 := Lib.hid e1
            have E2 := Lib.hid e2
            clear hz hl1 e1 e2
            go_wp2_with fail
            go_ret2
            exact ⟨by rw [E1.out, E2.out, Hon.out]; rfl, HB.out⟩
          · have hlb : ((ln : Int) == 1) = false := by
              cases tm with
              | z => exact absurd rfl hz
              | c q f u =>
                have h1 := HLN.out
                rw [T.enc_len, T.body_c] at h1
                simp [T.enc] at h1 ⊢
                omega
            have HZ := Lib.hid hz
            obtain ⟨nr, hnr⟩ : ∃ nr, nr = T.stepRow tm.enc n := ⟨_, rfl⟩
            obtain ⟨no, hno⟩ : ∃ no, no = T.stepOk tm.enc n := ⟨_, rfl⟩
            have hv2 := T.stepRow_val HVM.out hin.1 hin.2
            have Hnr := Lib.hid (hnr.trans hv2.1)
            have Hno := Lib.hid (hno.trans hv2.2)
            have Hnr0 := Lib.hid hnr
            have Hno0 := Lib.hid hno
            have HNX := Lib.hid (show T.it n t (m + 1) = tm.step n by rw [Htm.out]; rfl)
            have HNZ2 := Lib.hid (HNZ.out.snoc (by rw [← Htm.out]; exact hz))
            clear hz hnr hno hv2
            by_cases hkd : tm.kind = 1
            · have hkb : (tm.kind == 1) = true := by rw [hkd]; rfl
              have HKD := Lib.hid hkd
              clear hkd
              go_wp2_with fail
              refine (kk.out).mono ?_
              rintro ee w2 ⟨rfl, hb2⟩
              have ks2 := Lib.hid (spec_OrdStep (some ⟨bb, off', none⟩) ln c' tm.enc n w2 (HSL.out.below hb2) hN0.out hN1.out)
              unfold OrdOkPost at ks2
              rw [← Hnr0.out, ← Hno0.out] at ks2
              have Hb2 := Lib.hid (HB.out.trans (hb2.mono HB.out.size))
              clear hb2
              go_wp2_with fail
              refine (ks2.out).mono ?_
              rintro ee w3 ⟨a3, c3, rfl, ho3, hb3⟩
              have Hb3 := Lib.hid (Hb2.out.trans (hb3.mono Hb2.out.size))
              have Ho3 := Lib.hid ho3
              clear ho3 hb3
              cases hno2 : no with
              | false =>
                have hbad : T.down n 3000 t = none := by
                  have hv : T.vldB (T.it n t (m + 1)).enc = false := by rw [HNX.out, ← Hno.out, hno2]
                  rcases Nat.lt_or_ge m 3000 with h | h
                  · exact T.down_bad (m := m) HNZ2.out hv (by omega)
                  · exact T.down_long (m := 3000) (fun j hj => HNZ2.out j (by omega)) (HNZ2.out 3000 (by omega))
                obtain ⟨e1, e2⟩ := T.downP_none hbad
                have E1 := Lib.hid e1
                have E2 := Lib.hid e2
                clear hno2 hbad e1 e2
                go_wp2_with fail
                go_ret2
                exact ⟨by rw [E1.out, E2.out]; rfl, Hb3.out⟩
              | true =>
                have hvn : T.vldB (tm.step n).enc = true := by rw [← Hno.out, hno2]
                have hfe : nr = (tm.step n).enc := by rw [Hnr.out, T.fit, if_pos hvn]
                have ho3 := Ho3.out
                rw [hfe] at ho3
                obtain ⟨g2, rfl, hg2, hatn, hcn, hcmn⟩ := own_rowT ho3
                have hfin : SdRel n t w (m + 1) (.slice (some ⟨g2, 0, none⟩) nr.length c3) (.int .i64 ((on + 1 : Nat) : Int)) (.int .i64 ((m + 1 : Nat) : Int)) w3 := by
                  refine ⟨by omega, HVU.out.snoc (by rw [HNX.out]; exact hvn), HNZ2.out, rfl, ?_, Hb3.out, g2, 0, c3, by rw [HNX.out, hfe], by rw [HNX.out]; exact hcn, hcmn, by rw [HNX.out]; exact hatn⟩
                  rw [T.ones, if_pos (by rw [← Htm.out]; exact HKD.out), ← Hon.out]
                have Hfin := Lib.hid hfin
                clear hno2 hvn hfe ho3 hatn hcn hcmn hfin hg2
                go_wp2_with fail
                go_roundw
                case rel => exact ⟨m + 1, by have h := Hfin.out; simpa using h⟩
                case measure => simp [intOf]; omega
            · have hkb : (tm.kind == 1) = false := by simpa using hkd
              have HKD := Lib.hid hkd
              clear hkd
              go_wp2_with fail
              refine (kk.out).mono ?_
              rintro ee w2 ⟨rfl, hb2⟩
              have ks2 := Lib.hid (spec_OrdStep (some ⟨bb, off', none⟩) ln c' tm.enc n w2 (HSL.out.below hb2) hN0.out hN1.out)
              unfold OrdOkPost at ks2
              rw [← Hnr0.out, ← Hno0.out] at ks2
              have Hb2 := Lib.hid (HB.out.trans (hb2.mono HB.out.size))
              clear hb2
              go_wp2_with fail
              refine (ks2.out).mono ?_
              rintro ee w3 ⟨a3, c3, rfl, ho3, hb3⟩
              have Hb3 := Lib.hid (Hb2.out.trans (hb3.mono Hb2.out.size))
              have Ho3 := Lib.hid ho3
              clear ho3 hb3
              cases hno2 : no with
              | false =>
                have hbad : T.down n 3000 t = none := by
                  have hv : T.vldB (T.it n t (m + 1)).enc = false := by rw [HNX.out, ← Hno.out, hno2]
                  rcases Nat.lt_or_ge m 3000 with h | h
                  · exact T.down_bad (m := m) HNZ2.out hv (by omega)
                  · exact T.down_long (m := 3000) (fun j hj => HNZ2.out j (by omega)) (HNZ2.out 3000 (by omega))
                obtain ⟨e1, e2⟩ := T.downP_none hbad
                have E1 := Lib.hid e1
                have E2 := Lib.hid e2
                clear hno2 hbad e1 e2
                go_wp2_with fail
                go_ret2
                exact ⟨by rw [E1.out, E2.out]; rfl, Hb3.out⟩
              | true =>
                have hvn : T.vldB (tm.step n).enc = true := by rw [← Hno.out, hno2]
                have hfe : nr = (tm.step n).enc := by rw [Hnr.out, T.fit, if_pos hvn]
                have ho3 := Ho3.out
                rw [hfe] at ho3
                obtain ⟨g2, rfl, hg2, hatn, hcn, hcmn⟩ := own_rowT ho3
                have hfin : SdRel n t w (m + 1) (.slice (some ⟨g2, 0, none⟩) nr.length c3) (.int .i64 ((on : Nat) : Int)) (.int .i64 ((m + 1 : Nat) : Int)) w3 := by
                  refine ⟨by omega, HVU.out.snoc (by rw [HNX.out]; exact hvn), HNZ2.out, rfl, ?_, Hb3.out, g2, 0, c3, by rw [HNX.out, hfe], by rw [HNX.out]; exact hcn, hcmn, by rw [HNX.out]; exact hatn⟩
                  rw [T.ones, if_neg (by rw [← Htm.out]; exact HKD.out), ← Hon.out]; rfl
                have Hfin := Lib.hid hfin
                clear hno2 hvn hfe ho3 hatn hcn hcmn hfin hg2
                go_wp2_with fail
                go_roundw
                case rel => exact ⟨m + 1, by have h := Hfin.out; simpa using h⟩
                case measure => simp [intOf]; omega
        · have hm3 : m = 3001 := by omega
          obtain ⟨e1, e2⟩ := T.downP_none (t := t) (n := n) (T.down_long (m := 3000) (fun j hj => HNZ.out j (by omega)) (HNZ.out 3000 (by omega)))
          have E1 := Lib.hid e1
          have E2 := Lib.hid e2
          clear e1 e2
          go_wp2_with fail
          go_ret2
          exact ⟨by rw [E1.out, E2.out]; rfl, HB.out⟩
    · have ks := Lib.hid (fun w => l1In_no n 0 99 w (by omega))
      obtain ⟨e1, e2⟩ := T.downP_bad (xs := xs) (n := n) (.inr hin)
      rw [e1, e2]
      clear h h1 hin hn0 hn1 e1 e2
      go_enter Try.func27, Try.ntmps27
      go_wp2_with fail
      refine (k1.out).mono ?_
      rintro ee w1 ⟨rfl, hb1⟩
      have Hb1 := Lib.hid hb1
      clear hb1
      go_wp2_with fail
      refine (ks.out _).mono ?_
      rintro ee w2 ⟨rfl, rfl⟩
      go_wp2_with fail
      go_ret2
      exact ⟨rfl, Hb1.out⟩
  · have k1 := Lib.hid (spec_valid ao len cap xs w h h1)
    obtain ⟨e1, e2⟩ := T.downP_bad (xs := xs) (n := n) (.inl h1)
    rw [e1, e2]
    clear h h1 hn0 hn1 e1 e2
    go_enter Try.func27, Try.ntmps27
    go_wp2_with fail
    refine (k1.out).mono ?_
    rintro ee w1 ⟨rfl, hb1⟩
    have Hb1 := Lib.hid hb1
    clear hb1
    go_wp2_with fail
    go_ret2
    exact ⟨rfl, Hb1.out⟩
end Go.Proofs.Ytdcaefgbpnjjaab

/- FallS -/
/- OrdFall of the model, and the program's contract whole. -/
namespace Go.Proofs.Ytdcaefgbpnjjaab
open Go.RowKit

theorem impl_OrdFall (ao a2 : Option Addr) (len cap len2 cap2 : Nat) (xs ns : List Int) (w : World) (h : Sl w ao len cap xs) (h2 : Sl w a2 len2 cap2 ns) :
    Calls Try.prog 22 #[.slice ao len cap, .slice a2 len2 cap2] w (FallPost w (T.fallP xs ns)) := by
  rcases vld_tf xs with h1 | h1
  · by_cases h3 : len2 ≤ 3000
    · obtain ⟨b, off, t, rfl, rfl, hs, hos, hat, hn, hl, hp, hc, hm⟩ := h.valid h1
      exact impl_OrdFall_good b off len cap a2 len2 cap2 t ns w hat hn hc hm h1 h2 h3
    · rw [T.fallP_bad (.inr (.inl (by rw [h2.1]; omega)))]
      exact impl_OrdFall_bad ao a2 len cap len2 cap2 xs ns w h h2 (.inr (by omega))
  · rw [T.fallP_bad (.inl h1)]
    exact impl_OrdFall_bad ao a2 len cap len2 cap2 xs ns w h h2 (.inl h1)

theorem fallPost_lit {w W : World} (hb : Below w.heap.size w W) : FallPost w none (.returned (.tuple #[.slice (some ⟨W.heap.size, 0, none⟩) 0 0, .bool false])) (W.alloc (.cells #[] 23)) :=
  ⟨_, 0, 0, [], rfl, rfl, World.ownsRow_lit W #[] 0 hb.size (by simp [maxLen]) rfl, RowsT.nil _ _, hb.alloc hb.size _⟩

/-- Between two rounds of the model's loop. -/
def FsRel (t : T) (ns : List Int) (w : World) (k : Nat) (v0 v6 v8 : Value) (wr : World) : Prop :=
  k ≤ ns.length ∧ v8 = .int .i64 k ∧ Below w.heap.size w wr ∧ ∃ u l vs a n c, T.RunL t (ns.take k) u l ∧ n = l.length ∧ v6 = .slice a n c ∧ wr.ownsRow w.heap.size 23 1 (.slice a n c) n vs ∧ RowsT w.heap.size wr vs l ∧
    ∃ bb off c', v0 = .slice (some ⟨bb, off, none⟩) u.enc.length c' ∧ u.enc.length ≤ c' ∧ c' ≤ maxLen ∧ At wr bb off u.enc

set_option maxRecDepth 100000 in
set_option maxHeartbeats 4000000 in
theorem spec_OrdFall_bad (ao a2 : Option Addr) (len cap len2 cap2 : Nat) (xs ns : List Int) (w : World) (h : Sl w ao len cap xs) (h2 : Sl w a2 len2 cap2 ns) (hbad : T.vldB xs = false ∨ 3000 < len2) :
    Calls Try.prog 23 #[.slice ao len cap, .slice a2 len2 cap2] w (FallPost w none) := by
  have hw2 : Below w.heap.size w (w.alloc (.cells #[] 23)) := (Below.refl _ _).alloc (Nat.le_refl _) _
  have hm2 := h2.2.2.1
  have hown : (w.alloc (.cells #[] 23)).ownsRow w.heap.size 23 1 (.slice (some ⟨w.heap.size, 0, none⟩) 0 0) 0 [] := World.ownsRow_lit w #[] 0 (Nat.le_refl _) (by simp [maxLen]) rfl
  have HW2 := Lib.hid hw2
  have Hown := Lib.hid hown
  rcases vld_tf xs with h1 | h1
  · have k1 := Lib.hid (spec_valid ao len cap xs _ (h.below hw2) h1)
    have hlt : 3000 < len2 := by
      rcases hbad with h | h
      · rw [h1] at h; cases h
      · exact h
    clear h h1 h2 hbad hw2 hown
    go_enter Try.func23, Try.ntmps23
    go_wp2_with fail
    refine (k1.out).mono ?_
    rintro ee w3 ⟨rfl, hb3⟩
    have Hb3 := Lib.hid hb3
    clear hb3
    go_wp2_with fail
    go_ret2
    exact ⟨_, 0, 0, [], rfl, rfl, ownsRow_below' Hown.out Hb3.out, RowsT.nil _ _, HW2.out.trans (Hb3.out.mono HW2.out.size)⟩
  · have k1 := Lib.hid (spec_valid ao len cap xs _ (h.below hw2) h1)
    clear h h1 h2 hbad hw2 hown
    go_enter Try.func23, Try.ntmps23
    go_wp2_with fail
    refine (k1.out).mono ?_
    rintro ee w3 ⟨rfl, hb3⟩
    have Hb3 := Lib.hid hb3
    clear hb3
    go_wp2_with fail
    go_ret2
    exact ⟨_, 0, 0, [], rfl, rfl, ownsRow_below' Hown.out Hb3.out, RowsT.nil _ _, HW2.out.trans (Hb3.out.mono HW2.out.size)⟩

set_option maxRecDepth 100000 in
set_option maxHeartbeats 4000000 in
theorem spec_OrdFall_good (b off len cap : Nat) (a2 : Option Addr) (len2 cap2 : Nat) (t : T) (ns : List Int) (w : World) (hat : At w b off t.enc) (hl : len = t.enc.length) (hc : len ≤ cap) (hm : cap ≤ maxLen) (h1 : T.vldB t.enc = true) (h2 : Sl w a2 len2 cap2 ns) (h3 : len2 ≤ 3000)
    (hint : ∀ v ∈ ns, -9223372036854775808 ≤ v ∧ v ≤ 9223372036854775807) :
    Calls Try.prog 23 #[.slice (some ⟨b, off, none⟩) len cap, .slice a2 len2 cap2] w (FallPost w (T.fallP t.enc ns)) := by
  have hw2 : Below w.heap.size w (w.alloc (.cells #[] 23)) := (Below.refl _ _).alloc (Nat.le_refl _) _
  have hown : (w.alloc (.cells #[] 23)).ownsRow w.heap.size 23 1 (.slice (some ⟨w.heap.size, 0, none⟩) 0 0) 0 [] := World.ownsRow_lit w #[] 0 (Nat.le_refl _) (by simp [maxLen]) rfl
  have hsl1 : Sl w (some ⟨b, off, none⟩) len cap t.enc := Sl.of_at hl hc hm hat
  have k1 := Lib.hid (spec_valid (some ⟨b, off, none⟩) len cap t.enc _ (hsl1.below hw2) h1)
  have HW2 := Lib.hid hw2
  have Hown := Lib.hid hown
  have HAT := Lib.hid hat
  have HN := Lib.hid hl
  have H1 := Lib.hid h1
  have H2 := Lib.hid h2
  have HINT := Lib.hid hint
  clear h1 hat hl h2 hsl1 hw2 hown hint
  go_enter Try.func23, Try.ntmps23
  go_wp2_with fail
  refine (k1.out).mono ?_
  rintro ee w3 ⟨rfl, hb3⟩
  have Hb3 := Lib.hid (HW2.out.trans (hb3.mono HW2.out.size))
  have Hown3 := Lib.hid (ownsRow_below' Hown.out hb3)
  clear hb3
  go_wp2_with fail
  go_loopw [7] (fun i wr => ∃ k : Nat, k ≤ len2 ∧ i = .int .i64 k ∧ wr = w3 ∧ ∀ v ∈ ns.take k, 0 ≤ v ∧ v ≤ 99)
    (fun i _ => len2 - (intOf i).toNat)
  case atStart => exact ⟨0, Nat.zero_le _, rfl, rfl, fun v hv => by simp at hv⟩
  case round =>
    obtain ⟨k, hk, rfl, rfl, hall⟩ := hrel
    have HALL := Lib.hid hall
    clear hall
    by_cases hlt : k < len2
    · obtain ⟨g, o, hae, hat2⟩ := H2.out.2.2.2 (by omega)
      have hkn : k < ns.length := by rw [H2.out.1]; exact hlt
      obtain ⟨x, hx⟩ : ∃ x, x = ns[k] := ⟨_, rfl⟩
      have hxc0 : w.cell? ⟨g, o + k, none⟩ = some (.int .i64 x) := by
        rw [hat2 k hkn, hx]
        simp [hkn]
      have hxc : wr.cell? ⟨g, o + k, none⟩ = some (.int .i64 x) := (Hb3.out.cell (p := ⟨g, o + k, none⟩) (World.block_lt_of_cell? w _ hxc0)).trans hxc0
      have htk : ns.take (k + 1) = ns.take k ++ [x] := by rw [hx, List.take_succ_eq_append_getElem hkn]
      have Htk := Lib.hid htk
      have Hxm := Lib.hid (show x ∈ ns by rw [hx]; exact List.getElem_mem hkn)
      have hcap := H2.out.2.1
      subst hae
      clear hx htk hat2 hkn hxc0
      by_cases hv : 0 ≤ x ∧ x ≤ 99
      · have ks := Lib.hid (fun w => l1In_yes x 0 99 w hv.1 hv.2)
        have HV := Lib.hid hv
        clear hv
        go_wp2_with fail
        refine (ks.out _).mono ?_
        rintro ee wx ⟨rfl, rfl⟩
        go_wp2_with fail
        go_roundw
        case rel => exact ⟨k + 1, by omega, by simp, by trivial, fun v hv => by
          rw [Htk.out, List.mem_append] at hv
          rcases hv with hv | hv
          · exact HALL.out v hv
          · simp at hv
            subst hv
            exact HV.out⟩
        case measure => simp [intOf]; omega
      · have ks := Lib.hid (fun w => l1In_no x 0 99 w (by omega))
        have hres := T.fallP_bad (xs := t.enc) (ns := ns) (.inr (.inr ⟨x, Hxm.out, hv⟩))
        have Hres := Lib.hid hres
        clear hv hres
        go_wp2_with fail
        refine (ks.out _).mono ?_
        rintro ee wx ⟨rfl, rfl⟩
        go_wp2_with fail
        go_ret2
        rw [Hres.out]
        exact ⟨_, 0, 0, [], rfl, rfl, Hown3.out, RowsT.nil _ _, Hb3.out⟩
    · obtain rfl : k = len2 := by omega
      have hall : ∀ v ∈ ns, 0 ≤ v ∧ v ≤ 99 := by
        have h := HALL.out
        rw [← H2.out.1, List.take_length] at h
        exact h
      have HALL2 := Lib.hid hall
      have HFP := Lib.hid (T.fallP_good H1.out (by rw [H2.out.1]; exact h3) hall)
      have hst : FsRel t ns w 0 (.slice (some ⟨b, off, none⟩) len cap) (.slice (some ⟨w.heap.size, 0, none⟩) 0 0) (.int .i64 (0 : Nat)) wr :=
        ⟨Nat.zero_le _, rfl, Hb3.out, t, [], [], _, 0, 0, by rw [List.take_zero]; exact .nil, rfl, rfl, Hown3.out, RowsT.nil _ _, b, off, cap, by rw [← HN.out], by rw [← HN.out]; exact hc, hm, HAT.out.below Hb3.out (HAT.out.lt (T.enc_ne t))⟩
      have Hst := Lib.hid hst
      clear hall hst
      go_wp2_with fail
      go_loopw [0, 6, 8] (fun v0 v6 v8 wr => ∃ m, FsRel t ns w m v0 v6 v8 wr) (fun _ _ v8 _ => k - (intOf v8).toNat)
      case atStart => exact ⟨0, Hst.out⟩
      case round =>
        obtain ⟨m, hm2, rfl, hb, u, ls, vs, a, n, c, hru, hn, rfl, hout, hrows, bb, off', c', rfl, hle, hcm', hata⟩ := hrel
        rw [H2.out.1] at hm2
        obtain ⟨ln, hln⟩ : ∃ ln, ln = u.enc.length := ⟨_, rfl⟩
        rw [← hln] at hle ⊢
        have HLN := Lib.hid hln
        have hsl := Sl.of_at (t := u) hln hle hcm' hata
        have hnm : n = m := by rw [hn, hru.len, List.length_take, H2.out.1]; omega
        have hnk : n ≤ k := by omega
        have HB := Lib.hid hb
        have HRU := Lib.hid hru
        have HNL := Lib.hid hn
        have HNM := Lib.hid hnm
        have Hout := Lib.hid hout
        have Hrows := Lib.hid hrows
        have HSL := Lib.hid hsl
        have HVU := Lib.hid (hru.vld H1.out)
        have Hend := Lib.hid (show (m = k ∨ u = .z) → T.fallP t.enc ns = some ls from fun h => HFP.out.trans (T.fall_done ⟨List.take_prefix m ns, by
          rcases h with h | h
          · refine .inr ⟨?_, u, ls, hru⟩
            rw [h, ← H2.out.1, List.take_length]
          · subst h
            exact .inl (.inl ⟨ls, hru⟩)⟩ hru))
        clear hb hru hn hnm hout hrows hata hln hsl
        by_cases hlt : m < k
        · by_cases hz : u = .z
          · have hl1 : ln = 1 := by rw [HLN.out, hz]; rfl
            have hres := Hend.out (.inr hz)
            have Hres := Lib.hid hres
            clear hz hres
            go_wp2_with fail
            go_ret2
            rw [Hres.out]
            exact ⟨a, n, c, vs, rfl, HNL.out, Hout.out, Hrows.out, HB.out⟩
          · have hl2 : 1 < ln := by
              cases u with
              | z => exact absurd rfl hz
              | c q f v =>
                have h1 := HLN.out
                rw [T.enc_len, T.body_c] at h1
                simp at h1
                omega
            obtain ⟨g, o, hae, hat2⟩ := H2.out.2.2.2 (by omega)
            have hkn : m < ns.length := by rw [H2.out.1]; exact hlt
            obtain ⟨x, hx⟩ : ∃ x, x = ns[m] := ⟨_, rfl⟩
            have hxc0 : w.cell? ⟨g, o + m, none⟩ = some (.int .i64 x) := by
              rw [hat2 m hkn, hx]
              simp [hkn]
            have hxc := (HB.out.cell (p := ⟨g, o + m, none⟩) (World.block_lt_of_cell? w _ hxc0)).trans hxc0
            have htk : ns.take (m + 1) = ns.take m ++ [x] := by rw [hx, List.take_succ_eq_append_getElem hkn]
            have Htk := Lib.hid htk
            have hxm : x ∈ ns := by rw [hx]; exact List.getElem_mem hkn
            have hcap := H2.out.2.1
            have hx99 := HALL2.out x hxm
            have hxi := HINT.out x hxm
            have HZ := Lib.hid hz
            obtain ⟨nr, hnr⟩ : ∃ nr, nr = T.stepRow u.enc x := ⟨_, rfl⟩
            obtain ⟨no, hno⟩ : ∃ no, no = T.stepOk u.enc x := ⟨_, rfl⟩
            have hv2 := T.stepRow_val HVU.out hx99.1 hx99.2
            have Hnr := Lib.hid (hnr.trans hv2.1)
            have Hno := Lib.hid (hno.trans hv2.2)
            have ks2 := Lib.hid (spec_OrdStep (some ⟨bb, off', none⟩) ln c' u.enc x _ HSL.out hxi.1 hxi.2)
            unfold OrdOkPost at ks2
            rw [← hnr, ← hno] at ks2
            subst hae
            clear hx htk hat2 hkn hxc0 hz hnr hno hv2 hxm hx99 hxi
            go_wp2_with fail
            refine (ks2.out).mono ?_
            rintro ee w3 ⟨a3, c3, rfl, ho3, hb3⟩
            have Hb3 := Lib.hid (HB.out.trans (hb3.mono HB.out.size))
            have Hout3 := Lib.hid (ownsRow_below' Hout.out hb3)
            have Hrows3 := Lib.hid (Hrows.out.kept (fun g cur _ hc => hb3.block g (Array.getElem?_eq_some_iff.1 hc).1))
            have Ho3 := Lib.hid ho3
            have hws : w.heap.size ≤ w3.heap.size := Hb3.out.size
            clear ho3 hb3
            cases hno2 : no with
            | false =>
              have hres : T.fallP t.enc ns = none := HFP.out.trans (T.fall_stop (List.take_prefix (m + 1) ns) ⟨ns.take m, x, u, ls, Htk.out, HRU.out, HZ.out, by rw [← Hno.out, hno2]⟩)
              have Hres := Lib.hid hres
              clear hno2 hres
              go_wp2_with fail
              go_ret2
              rw [Hres.out]
              exact fallPost_lit Hb3.out
            | true =>
              have hvn : T.vldB (u.step x).enc = true := by rw [← Hno.out, hno2]
              have hfe : nr = (u.step x).enc := by rw [Hnr.out, T.fit, if_pos hvn]
              have ho3 := Ho3.out
              rw [hfe] at ho3
              obtain ⟨g2, rfl, hg2, hatn, hcn, hcmn⟩ := own_rowT ho3
              have hty2 : ∃ cur, w3.heap[g2]? = some (.cells cur 3 (0, 0)) := by
                obtain ⟨_, ⟨h, _⟩ | ⟨g, cap', cur, h, _, h2, _⟩⟩ := ho3
                · cases h
                · cases h
                  exact ⟨cur, h2⟩
              obtain ⟨cur2, hcur2⟩ := hty2
              have hwr := HB.out.size
              have Hfe := Lib.hid hfe
              have HVN := Lib.hid hvn
              have HCur := Lib.hid hcur2
              have HAT2 := Lib.hid hatn
              have HSN := Lib.hid (T.RunL.snoc HRU.out HZ.out hvn)
              obtain ⟨j0, hj, hy0, hy1, hy2⟩ := info_parts info_ints
              clear hno2 hvn hfe ho3 hatn hcur2
              go_wp2_with (at_builtin; refine wpList_append_own _ rfl (.tmp 58) (.tmp 60) 36 rfl w.heap.size 23 j0 (.slice none 0 0) 1 24 Try.underlying36 hj hy0 hy1 hy2 rfl (by decide) _ n vs rfl (Hout3.out.alloc _) ⟨w3.heap.size, 0, none⟩ 1 1 [.slice (some ⟨g2, 0, none⟩) nr.length c3] rfl rfl (cell_one_new _ _ _) (slice_oneCell _ _ _) (by unfold maxLen; omega) (by omega) (by simp; omega) ?_; intro v1 w5 ho1 hg1 _; obtain ⟨g5, c5, rfl⟩ := ownsRow_succ ho1; have Ho1 := Lib.hid ho1; have Hg1 := Lib.hid hg1; clear ho1 hg1)
              have hint5 : ∀ g cur, w.heap.size ≤ g → w3.heap[g]? = some (.cells cur 3 (0, 0)) → w5.heap[g]? = w3.heap[g]? := fun g cur _ h2 => by
                have hgl := (Array.getElem?_eq_some_iff.1 h2).1
                refine (Hg1.out.block g (by rw [World.size_alloc]; omega) (fun e => ?_)).trans (Below.heap_alloc _ _ _ hgl)
                rcases Hout3.out.2 with ⟨h, _⟩ | ⟨g', cap, cur', h, _, hgb, _⟩
                · rw [h] at e; cases e
                · rw [h] at e
                  cases e
                  rw [hgb] at h2
                  cases h2
              have hb2 := hint5 g2 cur2 (by omega) HCur.out
              have hfin : FsRel t ns w (m + 1) (.slice (some ⟨g2, 0, none⟩) nr.length c3) (.slice (some ⟨g5, 0, none⟩) (n + 1) c5) (.int .i64 ((m + 1 : Nat) : Int)) w5 := by
                refine ⟨by rw [H2.out.1]; omega, rfl, (Hb3.out.alloc hws _).grown Hg1.out (by simp; omega) (fun j ej => (Hout3.out.lt j ej).1), u.step x, ls ++ [u.step x], vs ++ [.slice (some ⟨g2, 0, none⟩) nr.length c3], some ⟨g5, 0, none⟩, n + 1, c5, ?_, by simp [HNL.out], rfl, Ho1.out, ?_, g2, 0, c3, by rw [Hfe.out], hcn, hcmn, fun j hj => (World.cell?_of_block hb2).trans (HAT2.out j hj)⟩
                · rw [Htk.out]; exact HSN.out
                · rw [Hfe.out]
                  exact (Hrows3.out.kept hint5).snoc (by omega) hcn hcmn (fun j hj => (World.cell?_of_block hb2).trans (HAT2.out j hj)) ⟨cur2, hb2.trans HCur.out⟩
              have Hfin := Lib.hid hfin
              clear hfin hint5 hb2 hg2
              go_roundw
              case rel => exact ⟨m + 1, by have h := Hfin.out; simpa using h⟩
              case measure => simp [intOf]; omega
        · obtain hmk : m = k := by omega
          have hres := Hend.out (.inl hmk)
          have Hres := Lib.hid hres
          clear hres hmk
          go_wp2_with fail
          go_ret2
          rw [Hres.out]
          exact ⟨a, n, c, vs, rfl, HNL.out, Hout.out, Hrows.out, HB.out⟩
end Go.Proofs.Ytdcaefgbpnjjaab

/- DrawF -/
/- What FnOrdFall draws. -/
namespace Go.Proofs.Ytdcaefgbpnjjaab
open Go.RowKit

/-- Ahead of a round of the numbers. -/
def FdRel (w1 : World) (g : Nat) (v5 v6 : Value) (wr : World) : Prop :=
  ∃ (j m : Nat) (xs : List Int) (ao : Option Addr) (c : Nat), v6 = .int .i64 j ∧ v5 = .slice ao m c ∧ m = xs.length ∧ m + j ≤ 13 ∧ (∀ x ∈ xs, -10 ≤ x ∧ x ≤ 10) ∧ wr.ownsRow w1.heap.size 3 1 (.slice ao m c) m (ints xs) ∧ RdOk wr g (1 + 2 * m) ∧ w1.grownBy wr (some g)

def DrawFall (w : World) (e : Ending) (w' : World) : Prop :=
  ∃ (xs ns : List Int) (g n c : Nat) (a2 : Option Addr) (n2 c2 : Nat), n = xs.length ∧ n2 = ns.length ∧ n2 ≤ 13 ∧ (∀ x ∈ ns, -10 ≤ x ∧ x ≤ 10) ∧ e = .returned (.tuple #[.slice (some ⟨g, 0, none⟩) n c, .slice a2 n2 c2]) ∧
    w'.ownsRow w.heap.size 3 1 (.slice (some ⟨g, 0, none⟩) n c) n (ints xs) ∧ w'.ownsRow w.heap.size 3 1 (.slice a2 n2 c2) n2 (ints ns) ∧ n ≤ 200 ∧ Below w.heap.size w w'

set_option maxHeartbeats 4000000 in
theorem drawOrdFall_any (a : Option Addr) (len cap : Nat) (w : World) (h : By w a len cap) : Calls Try.prog 21 #[.slice a len cap] w (DrawFall w) := by
  obtain ⟨i0, hi, hz0, hz1, hz2⟩ := info_parts info_int
  have k0 := Lib.hid (open_any a len cap w h)
  obtain ⟨g, hg⟩ : ∃ g, g = w.heap.size := ⟨_, rfl⟩
  rw [← hg] at k0
  have Hg := Lib.hid hg
  clear hg h
  go_enter Try.func21, Try.ntmps21
  go_wp2_with fail
  refine (k0.out).mono ?_
  rintro ee w1 ⟨rfl, hr1, hb1⟩
  have Hb1 := Lib.hid hb1
  have hgl : g < w1.heap.size := by obtain ⟨_, _, _, _, h1, _⟩ := hr1; exact (Array.getElem?_eq_some_iff.1 h1).1
  have hr1' : RdOk (w1.alloc (.cells #[] 3)) g 0 := hr1.kept (World.grownBy_alloc w1 _ none) (fun k e => by cases e)
  have k1 := Lib.hid (pick_any g 0 14 _ (by decide) (by decide) (by decide) hr1')
  clear hb1 hr1 hr1'
  go_wp2_with fail
  refine (k1.out).mono ?_
  rintro ee w2 ⟨x0, rfl, hx0, hr2, hg2⟩
  have hx00 := hx0.1
  have hx01 := hx0.2.1 (by decide)
  obtain ⟨j0, rfl⟩ : ∃ j0 : Nat, x0 = j0 := ⟨x0.toNat, by omega⟩
  have hst : FdRel w1 g (.slice (some ⟨w1.heap.size, 0, none⟩) 0 0) (.int .i64 (j0 : Nat)) w2 :=
    ⟨j0, 0, [], _, 0, rfl, rfl, rfl, by omega, fun x hx => (by cases hx), own_rd (World.ownsRow_lit w1 #[] 0 (Nat.le_refl _) (by simp [maxLen]) rfl) hg2 hgl, hr2, grownBy_step (World.grownBy_alloc w1 _ (some g)) hg2 (fun r e => .inl (by cases e; rfl))⟩
  have Hst := Lib.hid hst
  clear hst hx0 hr2 hg2
  go_wp2_with fail
  go_loopw [5, 6] (fun v5 v6 wr => FdRel w1 g v5 v6 wr) (fun _ v6 _ => (intOf v6).toNat)
  case atStart => exact Hst.out
  case round =>
    obtain ⟨j, m, xs, ao, c, rfl, rfl, hm, hmj, hxs, ho, hr, hg1⟩ := hrel
    have Hm := Lib.hid hm
    have Hxs := Lib.hid hxs
    have Ho := Lib.hid ho
    have Hg1 := Lib.hid hg1
    have hws := hg1.size
    have hRd := Lib.hid hr
    clear hm hxs ho hg1
    by_cases hj : 0 < j
    · have k2 := Lib.hid (pick_any g (1 + 2 * m) 5 wr (by omega) (by decide) (by decide) hr)
      clear hr
      go_wp2_with fail
      refine (k2.out).mono ?_
      rintro ee w3 ⟨x1, rfl, hx1, hr3, hg3⟩
      have hx10 := hx1.1
      have hx11 := hx1.2.1 (by decide)
      have Hg3 := Lib.hid (grownBy_trans Hg1.out hg3)
      have Ho3 := Lib.hid (own_rd Ho.out hg3 hgl)
      have k3 := Lib.hid (pick_any g (1 + 2 * m + 1) 60 w3 (by omega) (by decide) (by decide) hr3)
      clear hx1 hr3 hg3
      go_wp2_with fail
      refine (k3.out).mono ?_
      rintro ee w4 ⟨x2, rfl, hx2, hr4, hg4⟩
      have hx20 := hx2.1
      have hx21 := hx2.2.1 (by decide)
      have Hg4 := Lib.hid (grownBy_trans Hg3.out hg4)
      have Ho4 := Lib.hid (own_rd Ho3.out hg4 hgl)
      have Hr4 := Lib.hid hr4
      have hw4 := Hg4.out.size
      have hd0 : 0 ≤ x2 / 59 := by omega
      have hd1 : x2 / 59 ≤ 1 := by omega
      have q3 : x2.tdiv 59 = x2 / 59 := Int.tdiv_eq_ediv_of_nonneg hx20
      clear hx2 hr4 hg4
      go_wp2_with (at_builtin; refine wpList_append_own _ rfl (.tmp 16) (.tmp 24) 23 rfl w1.heap.size 3 i0 (.int .i64 0) 1 8 Try.underlying23 hi hz0 hz1 hz2 rfl (by decide) _ m (ints xs) rfl (Ho4.out.alloc _) ⟨w4.heap.size, 0, none⟩ 1 1 [.int .i64 (x1 - x2 / 59 * 6)] rfl rfl (cell_one_new _ _ _) (ints_oneCell _ [x1 - x2 / 59 * 6]) (by unfold maxLen; omega) (by omega) (by simp; omega) ?_; intro v1 w5 ho1 hg1 _; obtain ⟨g5, c5, rfl⟩ := Joins.ownsRow_form ho1 (by omega))
      have hA := grownBy_step (grownBy_step Hg4.out (World.grownBy_alloc w4 (.cells #[.int .i64 (x1 - x2 / 59 * 6)] 3) (some g)) (fun r e => .inl (by cases e; rfl))) hg1 (fun r e => .inr (Ho4.out.lt r e).1)
      have hr5 : RdOk w5 g (1 + 2 * (m + 1)) := ((Hr4.out.kept (World.grownBy_alloc w4 (.cells #[.int .i64 (x1 - x2 / 59 * 6)] 3) none) (fun k e => by cases e)).kept hg1 (fun k e => by have := (Ho4.out.lt k e).1; omega)).mono (by omega)
      have hfin : FdRel w1 g (.slice (some ⟨g5, 0, none⟩) (m + 1) c5) (.int .i64 ((j - 1 : Nat) : Int)) w5 :=
        ⟨j - 1, m + 1, xs ++ [x1 - x2 / 59 * 6], _, c5, rfl, rfl, by simp [Hm.out], by omega, fun x hx => by
          rcases List.mem_append.1 hx with hx | hx
          · exact Hxs.out x hx
          · simp at hx; omega, by simpa [ints] using ho1, hr5, hA⟩
      have Hfin := Lib.hid hfin
      have hj1 : ((j - 1 : Nat) : Int) = (j : Int) - 1 := by omega
      rw [hj1] at Hfin
      clear hfin hr5 hA ho1 hg1
      go_wp2_with fail
      go_roundw
      case rel => exact Hfin.out
      case measure => simp [intOf]; omega
    · obtain rfl : j = 0 := by omega
      have k4 := Lib.hid (l20Ord_any g (1 + 2 * m) 9 wr (by omega) (by decide) (by decide) hr)
      clear hr
      go_wp2_with fail
      refine (k4.out).mono ?_
      rintro ee w6 ⟨ys, g1, n, c1, hn, rfl, hoy, hl, hr6, hg6⟩
      have Hn := Lib.hid hn
      have Hoy := Lib.hid hoy
      have Ho6 := Lib.hid (own_rd Ho.out hg6 hgl)
      have Hg6 := Lib.hid (grownBy_trans Hg1.out hg6)
      clear hn hoy hr6 hg6
      go_wp2_with fail
      go_ret2
      have hs1 : g ≤ w1.heap.size := by omega
      have hs2 : w.heap.size ≤ w1.heap.size := Hb1.out.size
      exact ⟨ys, xs, g1, n, c1, ao, m, c, Hn.out, Hm.out, by omega, Hxs.out, rfl, Joins.ownsRow_le Hoy.out (by omega), Joins.ownsRow_le Ho6.out hs2, hl, by rw [← Hg.out]; exact Hb1.out.grown Hg6.out hs1 (fun k e => by cases e; exact Nat.le_refl _)⟩
end Go.Proofs.Ytdcaefgbpnjjaab

/- LFnOrdFall -/
/- FnOrdFall: the walk of the law. -/
namespace Go.Proofs.Ytdcaefgbpnjjaab
open Go.RowKit

theorem spec_OrdFall (ao a2 : Option Addr) (len cap len2 cap2 : Nat) (xs ns : List Int) (w : World) (h : Sl w ao len cap xs) (h2 : Sl w a2 len2 cap2 ns) (hint : ∀ v ∈ ns, -9223372036854775808 ≤ v ∧ v ≤ 9223372036854775807) :
    Calls Try.prog 23 #[.slice ao len cap, .slice a2 len2 cap2] w (FallPost w (T.fallP xs ns)) := by
  rcases vld_tf xs with h1 | h1
  · by_cases h3 : len2 ≤ 3000
    · obtain ⟨b, off, t, rfl, rfl, hs, hos, hat, hn, hl, hp, hc, hm⟩ := h.valid h1
      exact spec_OrdFall_good b off len cap a2 len2 cap2 t ns w hat hn hc hm h1 h2 h3 hint
    · rw [T.fallP_bad (.inr (.inl (by rw [h2.1]; omega)))]
      exact spec_OrdFall_bad ao a2 len cap len2 cap2 xs ns w h h2 (.inr (by omega))
  · rw [T.fallP_bad (.inl h1)]
    exact spec_OrdFall_bad ao a2 len cap len2 cap2 xs ns w h h2 (.inl h1)

theorem RowsT.below {B : Nat} {w w' : World} {vs : List Value} {ts : List T} (h : RowsT B w vs ts) (hb : Below w.heap.size w w') : RowsT B w' vs ts :=
  h.kept (fun _ _ _ hc => hb.block _ (Array.getElem?_eq_some_iff.1 hc).1)

/-- The cell of a row of rows, and the row that lies there. -/
theorem row_pick {w : World} {B B' n c k : Nat} {a : Option Addr} {vs : List Value} {ts : List T} {t : T} (ho : w.ownsRow B' 23 1 (.slice a n c) n vs) (hr : RowsT B w vs ts) (hn : n = ts.length) (ht : ts[k]? = some t) :
    ∃ g r cr, a = some ⟨g, 0, none⟩ ∧ g < w.heap.size ∧ w.cell? ⟨g, k, none⟩ = some (.slice (some ⟨r, 0, none⟩) t.enc.length cr) ∧ Sl w (some ⟨r, 0, none⟩) t.enc.length cr t.enc := by
  obtain ⟨r, cr, h1, _, h3, h4, h5, _⟩ := hr.2 k t ht
  have hk : k < n := by rw [hn]; exact (List.getElem?_eq_some_iff.1 ht).1
  obtain ⟨ao, cap, he, hf⟩ := own_form ho
  cases he
  obtain ⟨g, rfl, hg, hc⟩ := hf (by omega)
  exact ⟨g, r, cr, rfl, hg, (hc k hk).trans h1, Sl.of_at rfl h3 h4 h5⟩

set_option maxHeartbeats 4000000 in
theorem sameLists_same (a1 a2 : Option Addr) (n c1 c2 B1 B2 : Nat) (vs us : List Value) (ts : List T) (w : World) (h1 : w.ownsRow B1 23 1 (.slice a1 n c1) n vs) (r1 : RowsT B1 w vs ts)
    (h2 : w.ownsRow B2 23 1 (.slice a2 n c2) n us) (r2 : RowsT B2 w us ts) (hn : n = ts.length) (hn3 : n ≤ 3000) (hv : ∀ t ∈ ts, t.enc.length ≤ 60) :
    Calls Try.prog 24 #[.slice a1 n c1, .slice a2 n c2] w fun e w' => e = .returned (.bool true) ∧ Below w.heap.size w w' := by
  have H1 := Lib.hid h1
  have H2 := Lib.hid h2
  have R1 := Lib.hid r1
  have R2 := Lib.hid r2
  have HN := Lib.hid hn
  have HV := Lib.hid hv
  clear h1 h2 r1 r2 hn hv
  go_enter Try.func24, Try.ntmps24
  go_wp2_with fail
  go_loopw [5] (fun i wr => ∃ (k : Nat), k ≤ n ∧ i = .int .i64 k ∧ Below w.heap.size w wr) (fun i _ => n - (intOf i).toNat)
  case atStart => exact ⟨0, Nat.zero_le _, rfl, Below.refl _ _⟩
  case round =>
    obtain ⟨k, hk, rfl, hbel⟩ := hrel
    by_cases hlt : k < n
    · have hkt : k < ts.length := by rw [← HN.out]; exact hlt
      obtain ⟨t, ht⟩ : ∃ t, ts[k]? = some t := ⟨ts[k], List.getElem?_eq_getElem hkt⟩
      have hl60 := HV.out t (List.mem_of_getElem? ht)
      obtain ⟨g1, p1, q1, rfl, hg1, hc1, hs1⟩ := row_pick (ownsRow_below' H1.out hbel) (R1.out.below hbel) HN.out ht
      obtain ⟨g2, p2, q2, rfl, hg2, hc2, hs2⟩ := row_pick (ownsRow_below' H2.out hbel) (R2.out.below hbel) HN.out ht
      have hd0 : Below wr.heap.size wr wr.drew := (Below.refl _ _).drew
      have ks := Lib.hid (sameInts_any (some ⟨p1, 0, none⟩) (some ⟨p2, 0, none⟩) t.enc.length q1 t.enc.length q2 t.enc t.enc wr.drew (by omega) (hs1.below hd0) (hs2.below hd0))
      rw [eqB_refl] at ks
      have Hbel := Lib.hid hbel
      clear ht hkt hl60 hbel hs1 hs2
      go_wp2_with fail
      go_region_held3 (fun w' => w'.cell? ⟨g1, k, none⟩ = some (.slice (some ⟨p1, 0, none⟩) t.enc.length q1) ∧ w'.cell? ⟨g2, k, none⟩ = some (.slice (some ⟨p2, 0, none⟩) t.enc.length q2)) (first | go_keep | exact ⟨kS0, kS1⟩)
        ((first
          | (go_at_call 14; (with_reducible refine (ks.out).mono ?_); rintro ee w2 ⟨rfl, hb2⟩; have hb2' : Below wr.heap.size wr w2 := hd0.trans hb2; have kS0 := (hb2'.cell (p := ⟨g1, k, none⟩) hg1).trans hc1; have kS1 := (hb2'.cell (p := ⟨g2, k, none⟩) hg2).trans hc2)
          | fail))
      have HbA := Lib.hid (Hbel.out.trans (hb2'.mono Hbel.out.size))
      clear hb2 hb2' kS0 kS1
      go_wp2_with fail
      go_roundw
      case rel => exact ⟨k + 1, by omega, by go_num, HbA.out⟩
      case measure => simp [intOf]; omega
    · obtain rfl : k = n := by omega
      go_wp2_with fail
      go_ret
      exact ⟨rfl, hbel⟩

/-- Between two rounds of the law's loop. -/
def LfRel (w : World) (n : Nat) (l : List T) (v9 v10 : Value) (wr : World) : Prop :=
  ∃ (k : Nat) (ap : Option Addr) (np cp : Nat), k ≤ n ∧ v10 = .int .i64 k ∧ v9 = .slice ap np cp ∧ Below w.heap.size w wr ∧ (k = n ∨ ∃ t, T.vldB t.enc = true ∧ Sl wr ap np cp t.enc ∧ T.Desc t (l.drop k))

set_option maxHeartbeats 4000000 in
theorem fnOrdFall_walk (a : Option Addr) (len cap : Nat) (w : World) (h : By w a len cap) :
    Calls Try.prog 4 #[.slice a len cap] w fun e w' => e = .returned (.bool true) ∧ Below w.heap.size w w' := by
  have hlm : len ≤ 9223372036854775807 := by have := h.1; have := h.2.1; unfold maxLen at this; omega
  by_cases hbig : 1048576 < len
  · clear h
    go_enter Try.func4, Try.ntmps4
    go_wp2_with fail
    go_ret
    exact ⟨rfl, Below.refl _ _⟩
  have k0 := Lib.hid (drawOrdFall_any a len cap w h)
  clear h
  go_enter Try.func4, Try.ntmps4
  go_wp2_with fail
  refine (k0.out).mono ?_
  rintro ee w1 ⟨xs, ns, g, n, c, a2, n2, c2, hn, hn2, hn13, hns, rfl, ho, ho2, hl, hb0⟩
  have X_0 := Lib.hid (Sl.of_own ho)
  have N_0 := Lib.hid (Sl.of_own ho2)
  have Ht0 := Lib.hid hb0
  have Hn2 := Lib.hid hn2
  have hint : ∀ v ∈ ns, -9223372036854775808 ≤ v ∧ v ≤ 9223372036854775807 := fun v hv => by have := hns v hv; omega
  have HINT := Lib.hid hint
  obtain ⟨fp, hfp⟩ : ∃ fp, fp = T.fallP xs ns := ⟨_, rfl⟩
  obtain ⟨ls, hls⟩ : ∃ ls, ls = fp.getD [] := ⟨_, rfl⟩
  have hfacts : (ls = [] ∨ (T.vldB xs = true ∧ T.Desc (T.of xs) ls)) ∧ ls.length ≤ n2 ∧ (∀ u ∈ ls, T.vldB u.enc = true) ∧ (fp.isSome = true ∨ ls.length = 0) := by
    cases hf : fp with
    | none => rw [hls, hf]; exact ⟨.inl rfl, Nat.zero_le _, (fun u hu => by cases hu), .inr rfl⟩
    | some m =>
      have hm : ls = m := by rw [hls, hf]; rfl
      rw [hf, T.fallP] at hfp
      split at hfp
      · rename_i hc
        obtain ⟨d1, d2, d3⟩ := T.fall_desc hfp.symm
        rw [hm]
        exact ⟨.inr ⟨hc.1, d1⟩, by rw [hn2]; exact d2, d3, .inl rfl⟩
      · cases hfp
  obtain ⟨hd1, hd2, hd3, hd4⟩ := hfacts
  have HD1 := Lib.hid hd1
  have HD3 := Lib.hid hd3
  obtain ⟨ok, hok⟩ : ∃ ok, ok = fp.isSome := ⟨_, rfl⟩
  rw [← hok] at hd4
  have HD4 := Lib.hid hd4
  have k1 := Lib.hid (impl_OrdFall (some ⟨g, 0, none⟩) a2 n c n2 c2 xs ns w1 X_0.out N_0.out)
  unfold FallPost at k1
  rw [← hfp, ← hls, ← hok] at k1
  have Hfp := Lib.hid hfp
  have Hls := Lib.hid hls
  have Hok := Lib.hid hok
  have Hn := Lib.hid hn
  clear hb0 ho ho2 hn hn2 hns hint hfp hls hok hd1 hd3 hd4
  go_wp2_with fail
  refine (k1.out).mono ?_
  rintro ee w2 ⟨a3, n3, c3, vs, rfl, hn3, ho3, hr3, hb2⟩
  have X_1 := Lib.hid (X_0.out.below hb2)
  have Ht1 := Lib.hid (Ht0.out.trans (hb2.mono (by have h1 := Ht0.out.size; omega)))
  have k2 := Lib.hid (spec_OrdFall (some ⟨g, 0, none⟩) a2 n c n2 c2 xs ns w2 X_1.out (N_0.out.below hb2) HINT.out)
  unfold FallPost at k2
  rw [← Hfp.out, ← Hls.out, ← Hok.out] at k2
  have O_1 := Lib.hid ho3
  have R_1 := Lib.hid hr3
  have H3 := Lib.hid hn3
  have hn3b : n3 ≤ n2 := by rw [hn3]; exact hd2
  clear hb2 ho3 hr3 hn3 hd2
  go_wp2_with fail
  refine (k2.out).mono ?_
  rintro ee w3 ⟨a4, n4, c4, us, rfl, hn4, ho4, hr4, hb3⟩
  obtain rfl : n4 = n3 := by rw [hn4, H3.out]
  have X_2 := Lib.hid (X_1.out.below hb3)
  have Ht2 := Lib.hid (Ht1.out.trans (hb3.mono (by have h1 := Ht1.out.size; omega)))
  have O_2 := Lib.hid (ownsRow_below' O_1.out hb3)
  have R_2 := Lib.hid (R_1.out.below hb3)
  have k3 := Lib.hid (sameLists_same a3 a4 n4 c3 c4 w1.heap.size w2.heap.size vs us ls w3 O_2.out R_2.out ho4 hr4 hn4 (by omega) (fun t ht => (T.vldB_true.1 (HD3.out t ht)).1))
  clear hb3 ho4 hr4 hn4
  go_wp2_with fail
  refine (k3.out).mono ?_
  rintro ee w4 ⟨rfl, hb4⟩
  have X_3 := Lib.hid (X_2.out.below hb4)
  have Ht3 := Lib.hid (Ht2.out.trans (hb4.mono (by have h1 := Ht2.out.size; omega)))
  have O_3 := Lib.hid (ownsRow_below' O_2.out hb4)
  have R_3 := Lib.hid (R_2.out.below hb4)
  have hok2 : (ok != ok) = false := by simp
  have hst : LfRel w4 n4 ls (.slice (some ⟨g, 0, none⟩) n c) (.int .i64 (0 : Nat)) w4 := by
    refine ⟨0, _, n, c, Nat.zero_le _, rfl, rfl, Below.refl _ _, ?_⟩
    rcases HD1.out with h | ⟨h1, h2⟩
    · exact .inl (by rw [H3.out, h]; rfl)
    · obtain ⟨t, e1, _⟩ := T.vld_of h1
      have e3 : T.of xs = t := by rw [e1, T.of_enc]
      refine .inr ⟨t, by rw [← e1]; exact h1, by rw [← e1]; exact X_3.out, ?_⟩
      rw [e3] at h2
      exact h2
  have Hst := Lib.hid hst
  clear hb4 hst
  go_wp2_with fail
  go_loopw [9, 10] (fun v9 v10 wr => LfRel w4 n4 ls v9 v10 wr) (fun _ v10 _ => n4 - (intOf v10).toNat)
  case atStart => exact Hst.out
  case round =>
    obtain ⟨k, ap, np, cp, hk, rfl, rfl, hbel, hcase⟩ := hrel
    have Hbel := Lib.hid hbel
    have Hcase := Lib.hid hcase
    clear hbel hcase
    by_cases hlt : k < n4
    · have hkt : k < ls.length := by rw [← H3.out]; exact hlt
      obtain ⟨t, hv, hs, hd⟩ := Hcase.out.resolve_left (by omega)
      obtain ⟨u, hu⟩ : ∃ u, u = ls[k] := ⟨_, rfl⟩
      have hul : ls[k]? = some u := by rw [hu]; exact List.getElem?_eq_getElem hkt
      have hdr : ls.drop k = u :: ls.drop (k + 1) := by rw [hu]; exact List.drop_eq_getElem_cons hkt
      rw [hdr] at hd
      have hvu := HD3.out u (List.mem_of_getElem? hul)
      obtain ⟨g1, p1, q1, rfl, hg1, hc1, hs1⟩ := row_pick (ownsRow_below' O_3.out Hbel.out) (R_3.out.below Hbel.out) H3.out hul
      have ks := Lib.hid (impl_OrdCompare (some ⟨p1, 0, none⟩) ap u.enc.length q1 np cp u.enc t.enc wr hs1 hs)
      rw [T.cmpRow_val hvu hv, T.of_enc, T.of_enc, hd.1] at ks
      have HD := Lib.hid hd.2
      have HVU := Lib.hid hvu
      have HS1 := Lib.hid hs1
      clear hkt hu hul hdr hvu hd hv hs hs1
      go_wp2_with fail
      refine (ks.out).mono ?_
      rintro ee w5 ⟨rfl, hb5⟩
      have hc2 := (hb5.cell (p := ⟨g1, k, none⟩) hg1).trans hc1
      have HS2 := Lib.hid (HS1.out.below hb5)
      have Hb5 := Lib.hid (Hbel.out.trans (hb5.mono Hbel.out.size))
      clear hb5
      go_wp2_with fail
      go_roundw
      case rel => exact ⟨k + 1, _, _, q1, by omega, by go_num, rfl, Hb5.out, .inr ⟨u, HVU.out, HS2.out, HD.out⟩⟩
      case measure => simp [intOf]; omega
    · obtain rfl : k = n4 := by omega
      have k5 := Lib.hid (alive_any wr)
      have Ht4 := Lib.hid (Ht3.out.trans (Hbel.out.mono (by have h1 := Ht3.out.size; omega)))
      cases ok with
      | true =>
        go_wp2_with fail
        refine (k5.out).mono ?_
        rintro ee w6 ⟨rfl, hb6⟩
        have Ht5 := Lib.hid (Ht4.out.trans (hb6.mono (by have h1 := Ht4.out.size; omega)))
        clear hb6
        go_wp2_with fail
        go_ret
        exact ⟨rfl, Ht5.out⟩
      | false =>
        obtain rfl : k = 0 := by
          rcases HD4.out with h | h
          · cases h
          · rw [H3.out]; exact h
        go_wp2_with fail
        refine (k5.out).mono ?_
        rintro ee w6 ⟨rfl, hb6⟩
        have Ht5 := Lib.hid (Ht4.out.trans (hb6.mono (by have h1 := Ht4.out.size; omega)))
        clear hb6
        go_wp2_with fail
        go_ret
        exact ⟨rfl, Ht5.out⟩
end Go.Proofs.Ytdcaefgbpnjjaab
