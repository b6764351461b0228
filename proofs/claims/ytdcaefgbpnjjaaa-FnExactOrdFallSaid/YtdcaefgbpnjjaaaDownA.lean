/- The iterators of the steps down: 'repeated'. -/
import Derived.Test.YtdcaefgbpnjjaaaStepI
import Derived.Test.YtdcaefgbpnjjaaaStepsD
import Derived.Test.YtdcaefgbpnjjaaaRange
import Derived.RangeFuncBox
import Derived.Shelf.Abstract
import Derived.TacticsInMore
import Derived.LoopNIn
import Derived.LoopIn
namespace Go.Proofs.Ytdcaefgbpnjjaaa
open Go.RowKit Go.Shelf

attribute [local go_sem] Oper.semAt_some

/-- What lay below n₀, but for the blocks from lo up to hi, lies as it lay. -/
def KL (lo hi n₀ : Nat) (W W' : World) : Prop := W.heap.size ≤ W'.heap.size ∧ ∀ b, b < n₀ → b < W.heap.size → (b < lo ∨ hi ≤ b) → W'.heap[b]? = W.heap[b]?
theorem KL.refl (lo hi n₀ : Nat) (W : World) : KL lo hi n₀ W W := ⟨Nat.le_refl _, fun _ _ _ _ => rfl⟩
theorem KL.trans {lo hi n₀ : Nat} {A B C : World} (h : KL lo hi n₀ A B) (k : KL lo hi n₀ B C) : KL lo hi n₀ A C :=
  ⟨Nat.le_trans h.1 k.1, fun b h1 h2 h3 => (k.2 b h1 (Nat.lt_of_lt_of_le h2 h.1) h3).trans (h.2 b h1 h2 h3)⟩
theorem KL.cell {lo hi n₀ : Nat} {A B : World} (h : KL lo hi n₀ A B) {b o : Nat} {v : Value} (hc : A.cell? ⟨b, o, none⟩ = some v) (h1 : b < n₀) (h3 : b < lo ∨ hi ≤ b) : B.cell? ⟨b, o, none⟩ = some v :=
  (World.cell?_of_block (h.2 b h1 (World.block_lt_of_cell? A _ hc) h3)).trans hc
theorem KL.put {lo hi n₀ : Nat} {w : World} (hn : n₀ ≤ w.heap.size) (W : World) (l : Nat) (o o' : Obj) (hl : w.heap.size ≤ l) (_ : W.heap[l]? = some o) (_ : o.isCells = false) (_ : o.isWalk = false) : KL lo hi n₀ W (W.putObj l o') :=
  ⟨by simp [World.putObj], fun b h1 _ _ => World.putObj_heap_other (by omega)⟩

/-- At the widest fence a call of yield wants no room. -/
theorem YieldAt.wide {n m l : Nat} {P : Program} {args : Array Value} {W : World} {R : Ending → World → Prop} (h : YieldAt Fence.wide n P l args W R) : YieldAt Fence.wide m P l args W R := by
  obtain ⟨fn, tmps, assign, body, hy, h1, h2⟩ := h
  exact ⟨fn, tmps, assign, body, hy, h1, fun c cs _ => h2 c cs (room_wide _)⟩

set_option maxRecDepth 100000 in
set_option maxHeartbeats 2000000 in
theorem repeated1_stops (n : Nat) (v : Int) (M lo hi n₀ b1 b2 : Nat) (w0 : World) (hM : M ≤ 3000) (hn0 : n₀ ≤ w0.heap.size) (h1 : b1 < n₀ ∧ (b1 < lo ∨ hi ≤ b1)) (h2 : b2 < n₀ ∧ (b2 < lo ∨ hi ≤ b2))
    (hc1 : w0.cell? ⟨b1, 0, none⟩ = some (.int .i64 M)) (hc2 : w0.cell? ⟨b2, 0, none⟩ = some (.int .i64 v)) :
    SeqStopsK Fence.wide n Try.prog 61 #[.pointer (some ⟨b1, 0, none⟩), .pointer (some ⟨b2, 0, none⟩)] (fun _ : Unit => #[.int .i64 v]) (KL lo hi n₀)
      (fun xs => xs.length = M) (fun pre => 1 ≤ pre.length ∧ pre.length ≤ M) M w0 := by
  intro l J Jx W hW _ _ hY h0
  have hd1 := (hW.cell (p := ⟨b1, 0, none⟩) (Nat.lt_of_lt_of_le h1.1 hn0)).trans hc1
  have hd2 := (hW.cell (p := ⟨b2, 0, none⟩) (Nat.lt_of_lt_of_le h2.1 hn0)).trans hc2
  have H1 := Lib.hid h1
  have H2 := Lib.hid h2
  clear hW hc1 hc2 h1 h2
  refine callsIn_of_wp Try.func61 rfl trivial ?_ rfl
  simp only [Try.ntmps61, List.size_toArray, List.length_cons, List.length_nil, Nat.reduceAdd, Nat.reduceSub, Array.replicate_succ, Array.replicate_zero, List.push_toArray, List.append_toArray, List.nil_append, List.cons_append]
  gi_wp2
  gi_loopw [5] (fun i wr => ∃ pre : List Unit, pre.length ≤ M ∧ i = .int .i64 (pre.length : Nat) ∧ J pre wr ∧ KL lo hi n₀ W wr)
    (fun i _ => M - (intOf i).toNat)
  case atStart => exact ⟨[], Nat.zero_le _, rfl, h0, KL.refl _ _ _ _⟩
  case round =>
    obtain ⟨pre, hk, rfl, hJs, hnx⟩ := hrel
    obtain ⟨k, hkl⟩ : ∃ k, k = pre.length := ⟨_, rfl⟩
    rw [← hkl] at hk ⊢
    have Hkl := Lib.hid hkl
    have Hnx := Lib.hid hnx
    have hcx := hnx.cell hd2 H2.out.1 H2.out.2
    by_cases hlt : k < M
    · obtain ⟨fn, tmps, assign, body, hy, hR⟩ := hY pre () wr hJs (by rw [← hkl]; exact hlt)
      clear hkl hnx
      gi_wp2
      refine ⟨fun h => (by cases h), hR.mono ?_⟩
      rintro e W3 (⟨rfl, hJ3, hk3⟩ | ⟨rfl, hJx3⟩)
      · gi_wp2
        go_roundw
        case rel => exact ⟨pre ++ [()], by have := Hkl.out; simp; omega, by have := Hkl.out; simp; omega, hJ3, Hnx.out.trans hk3⟩
        case measure => simp [intOf]; omega
      · gi_wp2
        refine bodyPost_ret (results_none rfl _ _ _) rfl ?_
        exact ⟨⟨_, rfl⟩, .inr ⟨_, ⟨by simp, by have := Hkl.out; simp; omega⟩, hJx3⟩⟩
    · obtain rfl : k = M := by omega
      clear hkl hnx
      gi_wp2
      go_end0
      exact ⟨⟨_, rfl⟩, .inl ⟨_, Hkl.out.symm, hJs⟩⟩
end Go.Proofs.Ytdcaefgbpnjjaaa
