/- Loops whose activation grows its deferred calls, and leaving with whatever marks. -/
import Derived.Test.YtagdeifalkenhaaDoorRelD
namespace Go.Proofs.YtagdeifalkenhaaDoor
set_option maxRecDepth 100000
open Go.RowKit Go.Shelf

/-- A loop of at most m rounds, whose activation may grow its deferred calls. -/
theorem wpIn_loop_inv {F : Fence} {n : Nat} {P : Program} {Q : Exit → Act → World → Prop} {c : Code} {a : Act} {w : World} (Inv : Nat → Act → World → Prop) (m : Nat) (h0 : Inv m a w) (hz : ∀ a W, ¬ Inv 0 a W)
    (h : ∀ (m : Nat) (a : Act) (W : World) (K : Act → World → Prop), Inv (m + 1) a W → (∀ a' W', Inv m a' W' → K a' W') → c.wpIn F n P (Exit.then K Q) a W) : (Code.loop c).wpIn F n P Q a w := by
  refine wpIn_loop_rounds m ?_
  suffices key : ∀ m a w, Inv m a w → Code.roundsIn F n P c Q m a w from key m a w h0
  intro m
  induction m with
  | zero => intro a w hi; exact (hz a w hi).elim
  | succ m ih => intro a w hi; rw [roundsIn_succ]; exact h m a w _ hi ih
/-- The mark of a loop over an iterator among the deferred calls. -/
def mark (D : Nat) : Deferred := { target := .collected D, args := #[] }
/-- Leaving with whatever marks: nothing was deferred in any round. -/
theorem leaves_marks {F : Fence} {n : Nat} {P : Program} {fn : Func} {tmps : Array Value} {R : Ending → World → Prop} (K : World → Prop) (lo : Nat)
    (hK : ∀ W D o', K W → lo ≤ D → W.heap[D]? = some (.deferred (some [])) → K (W.putObj D o')) (h : ∀ W, K W → LeavesInM F n P fn tmps R [] .returning W) :
    ∀ (Ds : List Nat) (W : World), Ds.Nodup → (∀ D ∈ Ds, lo ≤ D) → (∀ D ∈ Ds, W.heap[D]? = some (.deferred (some []))) → K W → LeavesInM F n P fn tmps R (Ds.map mark) .returning W
  | [], W, _, _, _, hk => h W hk
  | D :: t, W, hn, hl, hd, hk => by
    have hD := hd D List.mem_cons_self
    have hn' := List.nodup_cons.1 hn
    refine ⟨by simp, .inl ⟨_, _, rfl, run_takeDeferred hD, ?_⟩⟩
    refine leaves_marks K lo hK h t _ hn'.2 (fun E hE => hl E (List.mem_cons_of_mem _ hE)) (fun E hE => ?_) (hK W D _ hk (hl D List.mem_cons_self) hD)
    have hne : E ≠ D := fun e => hn'.1 (e ▸ hE)
    exact (World.putObj_heap_other hne).trans (hd E (List.mem_cons_of_mem _ hE))


theorem cells_ne {W : World} {D : Nat} {B : Nat} {cs : Array Value} {t : TypeId} {f : Nat × Nat} (h : W.heap[D]? = some (.deferred (some []))) (hb : W.heap[B]? = some (.cells cs t f)) : D ≠ B := fun e => by
  rw [e, hb] at h; cases h

end Go.Proofs.YtagdeifalkenhaaDoor
