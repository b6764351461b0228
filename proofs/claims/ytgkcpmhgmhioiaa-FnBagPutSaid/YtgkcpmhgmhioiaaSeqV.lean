/- slices.Values over a row: an iterator that stops (out of DownA and FallA, without chapter 3). -/
import Derived.Test.YtgkcpmhgmhioiaaBagA
import Derived.Test.YtgkcpmhgmhioiaaRange
import Derived.Test.YtgkcpmhgmhioiaaRangeL
import Derived.RangeFuncBox
import Derived.RangeFuncKeeps
import Derived.Shelf.Abstract
import Derived.TacticsInMore
import Derived.LoopNIn
import Derived.LoopIn
namespace Go.Proofs.Ytgkcpmhgmhioiaa
set_option maxRecDepth 100000
open Go.RowKit Go.Shelf

attribute [local go_sem] Oper.semAt_some

/-- What lay below n₀, but for the blocks from lo up to hi, lies as it lay. -/
def KL (lo hi n₀ : Nat) (W W' : World) : Prop := W.heap.size ≤ W'.heap.size ∧ ∀ b, b < n₀ → b < W.heap.size → (b < lo ∨ hi ≤ b) → W'.heap[b]? = W.heap[b]?
theorem KL.refl (lo hi n₀ : Nat) (W : World) : KL lo hi n₀ W W := ⟨Nat.le_refl _, fun _ _ _ _ => rfl⟩
theorem KL.trans {lo hi n₀ : Nat} {A B C : World} (h : KL lo hi n₀ A B) (k : KL lo hi n₀ B C) : KL lo hi n₀ A C :=
  ⟨Nat.le_trans h.1 k.1, fun b h1 h2 h3 => (k.2 b h1 (Nat.lt_of_lt_of_le h2 h.1) h3).trans (h.2 b h1 h2 h3)⟩
theorem KL.cell {lo hi n₀ : Nat} {A B : World} (h : KL lo hi n₀ A B) {b o : Nat} {v : Value} (hc : A.cell? ⟨b, o, none⟩ = some v) (h1 : b < n₀) (h3 : b < lo ∨ hi ≤ b) : B.cell? ⟨b, o, none⟩ = some v :=
  (World.cell?_of_block (h.2 b h1 (World.block_lt_of_cell? A _ hc) h3)).trans hc
theorem KL.put {lo hi n₀ : Nat} {w : World} (hn : n₀ ≤ w.heap.size) (W : World) (l : Nat) (o o' : Obj) (hl : w.heap.size ≤ l) (_ : W.heap[l]? = some o) (_ : o.isCells = false) (_ : o.isWalk = false) : KL lo hi n₀ W (W.putObj l o') :=
  ⟨by simp [World.putObj], fun b h1 _ _ => World.putObj_heap_other (by omega)⟩

/-- At the widest fence a call of yield wants no room. -/
theorem YieldAt.wide {n m l : Nat} {P : Program} {args : Array Value} {W : World} {R : Ending → World → Prop} (h : YieldAt Fence.wide n P l args W R) : YieldAt Fence.wide m P l args W R := by
  obtain ⟨fn, tmps, assign, body, hy, h1, h2⟩ := h
  exact ⟨fn, tmps, assign, body, hy, h1, fun c cs _ => h2 c cs (room_wide _)⟩

/-- A number of a step. -/
abbrev Num := { x : Int // 0 ≤ x ∧ x ≤ 99 }
def nums (l : List Num) : List Int := l.map (·.1)

set_option maxRecDepth 100000 in
set_option maxHeartbeats 2000000 in
theorem values1_stops (n : Nat) (ns : List Num) (len cap lo hi n₀ bs : Nat) (ao : Option Addr) (w0 : World) (hM : len ≤ 3000) (hn0 : n₀ ≤ w0.heap.size) (h1 : bs < n₀ ∧ (bs < lo ∨ hi ≤ bs))
    (hc1 : w0.cell? ⟨bs, 0, none⟩ = some (.slice ao len cap)) (hsl : Sl w0 ao len cap (nums ns)) (hb : ∀ b off, ao = some ⟨b, off, none⟩ → 0 < len → b < n₀ ∧ (b < lo ∨ hi ≤ b)) :
    SeqStopsK Fence.wide n Try.prog 91 #[.pointer (some ⟨bs, 0, none⟩)] (fun x : Num => #[.int .i64 x.1]) (KL lo hi n₀)
      (fun xs => xs = ns) (fun pre => 1 ≤ pre.length ∧ pre <+: ns) len w0 := by
  intro l J Jx W hW _ _ hY h0
  have hd1 := (hW.cell (p := ⟨bs, 0, none⟩) (Nat.lt_of_lt_of_le h1.1 hn0)).trans hc1
  have hslW := hsl.below hW
  have hln : ns.length = len := by have := hsl.1; rw [nums, List.length_map] at this; exact this
  have Hsl := Lib.hid hslW
  have HB := Lib.hid hb
  have Hln := Lib.hid hln
  clear hW hc1 h1 hsl hslW hb hln
  refine callsIn_of_wp Try.func91 rfl trivial ?_ rfl
  simp only [Try.ntmps91, List.size_toArray, List.length_cons, List.length_nil, Nat.reduceAdd, Nat.reduceSub, Array.replicate_succ, Array.replicate_zero, List.push_toArray, List.append_toArray, List.nil_append, List.cons_append]
  gi_wp2
  gi_loopw [7] (fun i wr => ∃ k : Nat, k ≤ len ∧ i = .int .i64 k ∧ J (ns.take k) wr ∧ KL lo hi n₀ W wr)
    (fun i _ => len - (intOf i).toNat)
  case atStart => exact ⟨0, Nat.zero_le _, rfl, by rw [List.take_zero]; exact h0, KL.refl _ _ _ _⟩
  case round =>
    obtain ⟨k, hk, rfl, hJs, hnx⟩ := hrel
    have Hnx := Lib.hid hnx
    by_cases hlt : k < len
    · obtain ⟨b, off, rfl, hat⟩ := Hsl.out.2.2.2 (by omega)
      have hkn : k < ns.length := by rw [Hln.out]; exact hlt
      obtain ⟨x, hx⟩ : ∃ x, x = ns[k] := ⟨_, rfl⟩
      have hxc : W.cell? ⟨b, off + k, none⟩ = some (.int .i64 x.1) := by
        have h := hat k (by rw [nums, List.length_map]; exact hkn)
        rw [h, hx]
        simp [nums, hkn]
      have hcx : wr.cell? ⟨b, off + k, none⟩ = some (.int .i64 x.1) := hnx.cell hxc (HB.out b off rfl (by omega)).1 (HB.out b off rfl (by omega)).2
      have htk : ns.take (k + 1) = ns.take k ++ [x] := by rw [hx, List.take_succ_eq_append_getElem hkn]
      have Htk := Lib.hid htk
      obtain ⟨fn, tmps, assign, body, hy, hR⟩ := hY (ns.take k) x wr hJs (by rw [List.length_take]; omega)
      have hcap := Hsl.out.2.1
      clear hx hxc htk hnx hat hkn
      gi_wp2
      refine ⟨fun h => (by cases h), hR.mono ?_⟩
      rintro e W3 (⟨rfl, hJ3, hk3⟩ | ⟨rfl, hJx3⟩)
      · gi_wp2
        go_roundw
        case rel => exact ⟨k + 1, by omega, by simp, by rw [Htk.out]; exact hJ3, Hnx.out.trans hk3⟩
        case measure => simp [intOf]; omega
      · gi_wp2
        refine bodyPost_ret (results_none rfl _ _ _) rfl ?_
        exact ⟨⟨_, rfl⟩, .inr ⟨_, ⟨by simp, by rw [← Htk.out]; exact List.take_prefix _ _⟩, hJx3⟩⟩
    · obtain rfl : k = len := by omega
      have hall : ns.take k = ns := by rw [← Hln.out, List.take_length]
      have Hall := Lib.hid hall
      clear hnx hall
      gi_wp2
      go_end0
      exact ⟨⟨_, rfl⟩, .inl ⟨_, Hall.out, hJs⟩⟩

end Go.Proofs.Ytgkcpmhgmhioiaa
