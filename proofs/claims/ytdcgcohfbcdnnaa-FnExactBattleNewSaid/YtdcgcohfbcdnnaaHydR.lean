/- slices.Repeat at rows of numbers. -/
import Derived.Test.YtdcgcohfbcdnnaaMake
import Derived.Test.YtdcgcohfbcdnnaaShelf
import Derived.Laws.CopyOwn
import Derived.Deep.RegionLaw
namespace Go.Proofs.Ytdcgcohfbcdnnaa
set_option maxRecDepth 100000
open Go.RowKit

/-- A row so many times, one behind the other. -/
def Rp {α : Type} : Nat → List α → List α
  | 0, _ => []
  | k + 1, xs => xs ++ Rp k xs
theorem Rp_len {α : Type} (k : Nat) (xs : List α) : (Rp k xs).length = xs.length * k := by
  induction k with
  | zero => rfl
  | succ k ih => rw [Rp, List.length_append, ih, Nat.mul_add, Nat.mul_one, Nat.add_comm]
theorem Rp_add {α : Type} (j k : Nat) (xs : List α) : Rp (j + k) xs = Rp j xs ++ Rp k xs := by
  induction j with
  | zero => simp [Rp]
  | succ j ih => rw [show j + 1 + k = (j + k) + 1 by omega, Rp, Rp, ih, List.append_assoc]
theorem Rp_take {α : Type} {k q c : Nat} {xs : List α} (hq : q ≤ k) (hc : c ≤ xs.length * (k - q)) : (Rp k xs).take (xs.length * q) ++ (Rp k xs).take c = (Rp k xs).take (xs.length * q + c) := by
  have h1 : Rp k xs = Rp q xs ++ Rp (k - q) xs := by rw [← Rp_add]; congr 1; omega
  have h2 : Rp k xs = Rp (k - q) xs ++ Rp q xs := by rw [← Rp_add]; congr 1; omega
  have e1 : (Rp k xs).take (xs.length * q) = Rp q xs := by rw [h1, List.take_append_of_le_length (by rw [Rp_len]; exact Nat.le_refl _), List.take_of_length_le (by rw [Rp_len]; exact Nat.le_refl _)]
  have e2 : (Rp k xs).take c = (Rp (k - q) xs).take c := by rw [h2, List.take_append_of_le_length (by rw [Rp_len]; exact hc)]
  have e3 : (Rp k xs).take (xs.length * q + c) = Rp q xs ++ (Rp (k - q) xs).take c := by
    rw [h1, ← Rp_len q xs, List.take_length_add_append]
  rw [e1, e2, e3]
theorem Rp_mem {α : Type} {k : Nat} {xs : List α} {u : α} (h : u ∈ Rp k xs) : u ∈ xs := by
  induction k with
  | zero => cases h
  | succ k ih =>
    rw [Rp, List.mem_append] at h
    rcases h with h | h
    · exact h
    · exact ih h
theorem Rp_ints (k : Nat) (xs : List Int) : Rp k (ints xs) = ints (Rp k xs) := by
  induction k with
  | zero => rfl
  | succ k ih => rw [Rp, Rp, ih]; simp [ints]

theorem own_tight {w : World} {B e n g : Nat} {xs : List Value} (h : w.ownsRow B e 1 (.slice (some ⟨g, 0, none⟩) n n) n xs) : w.heap[g]? = some (.cells xs.toArray e (0, 0)) := by
  rcases h.2 with ⟨h1, _⟩ | ⟨g', c, cur, h1, h2, h3, h4, h5, h6, h7⟩
  · cases h1
  · simp only [Value.slice.injEq, Option.some.injEq, Addr.mk.injEq] at h1
    obtain ⟨⟨rfl, _⟩, _, rfl⟩ := h1
    rw [List.take_of_length_le (by rw [Array.length_toList, h6]; exact Nat.le_refl _)] at h7
    rw [← h7, h3]
theorem tight_own {w : World} {B e n g : Nat} {xs : List Value} (h : w.heap[g]? = some (.cells xs.toArray e (0, 0))) (hB : B ≤ g) (hn : xs.length = n) (hm : n ≤ maxLen) : w.ownsRow B e 1 (.slice (some ⟨g, 0, none⟩) n n) n xs :=
  ⟨by omega, .inr ⟨g, n, xs.toArray, rfl, hB, h, Nat.le_refl _, hm, by simp; omega, by rw [List.take_of_length_le (by simp; omega)]⟩⟩

theorem rep_made {w : World} {B N g : Nat} (h : w.ownsRow B 3 1 (.slice (some ⟨g, 0, none⟩) N N) N (madeCells (Value.int .i64 0).cells (N * 1)).toList) : w.heap[g]? = some (.cells (List.replicate N (Value.int .i64 0)).toArray 3 (0, 0)) := by
  rw [Nat.mul_one, show (Value.int .i64 0).cells = #[Value.int .i64 0] from rfl, toList_madeCells_one] at h
  exact own_tight h

def RepRel (w : World) (vs : List Value) (n k : Nat) (v8 : Value) (wr : World) : Prop :=
  ∃ (q m : Nat) (zs : List Value), m = n * q ∧ 1 ≤ q ∧ q ≤ k ∧ v8 = .int .i64 m ∧ ((Rp k vs).take m ++ zs).length = n * k ∧ wr.heap[w.heap.size]? = some (.cells ((Rp k vs).take m ++ zs).toArray 3 (0, 0)) ∧ Below w.heap.size w wr

end Go.Proofs.Ytdcgcohfbcdnnaa
