/- slices.SortFunc under 'descending', by the shelf's contract. -/
import Derived.Test.YtgkcpmhgmhioiaaBagA
import Derived.Test.YtgkcpmhgmhioiaaShelf
import Derived.Shelf.SlSortCmp.NoneTotal
import Derived.Lib.RowBridge
import Derived.Lib.SortBridge
namespace Go.Proofs.Ytgkcpmhgmhioiaa
set_option maxRecDepth 100000
open Go.Shelf Go.RowKit Go.Lib Go.Sort

/-- The comparison: 'descending'. -/
def cfD (x y : Int) : Int := cmpI y x
theorem ltD (x y : Int) : ltOf cfD x y = decide (y < x) := by
  unfold ltOf cfD cmpI
  by_cases h1 : y < x
  · simp [h1]
  · by_cases h2 : x < y <;> simp [h1, h2]
theorem swoD : SWO (ltOf cfD) where
  irrefl x := by rw [ltD]; simp
  trans x y z h1 h2 := by rw [ltD] at *; simp at *; omega
  ntrans x y z h1 h2 := by rw [ltD] at *; simp at *; omega
theorem totD (x y : Int) (h1 : ltOf cfD x y = false) (h2 : ltOf cfD y x = false) : x = y := by rw [ltD] at *; simp at *; omega
theorem geD : (fun x y : Int => !ltOf cfD y x) = fun x y => decide (y ≤ x) := by
  funext x y
  rw [ltD]
  by_cases h : y ≤ x
  · have h' : ¬ x < y := by omega
    simp [h, h']
  · have h' : x < y := by omega
    simp [h, h']

theorem cmpReadsD (blk off size : Nat) (w : World) : CmpReads Try.prog 80 #[] (Value.int .i64) cfD blk off size w :=
  fun _ _ _ _ x y => (descending_any x y _).mono (fun _ _ ⟨h, e⟩ => ⟨h, 0, e.symm⟩)

theorem sortD_some (blk off c : Nat) (d : Array Int) (h12 : d.size < 4611686018427387904) (w : World) (hH : Holds (Value.int .i64) w blk off d) (hblk : blk < w.heap.size) :
    Calls Try.prog 90 #[.slice (some ⟨blk, off, none⟩) d.size c, .func (.func 80) #[] #[]] w fun e w' =>
      e = .returned (.tuple #[]) ∧ ∃ n os, w' = grow (putRow (Value.int .i64) (Sort.ahead w n) blk off (d.toList.mergeSort fun x y => decide (y ≤ x)).toArray) os := by
  have eg : ∀ args w, (callFunc 80 args).run Try.prog w = .ok (.enter 80 args) w := enters_of Try.func80 (by kernel_rfl) rfl
  have hS := Any.slices_SortFunc_total Try.sortI (Value.int .i64) (fun _ => rfl) cfD swoD 80 #[] blk off c d w eg (cmpReadsD blk off d.size w).lays hH hblk h12 totD
  rw [geD] at hS
  exact hS.mono (fun e w' ⟨h1, n, os, h2⟩ => ⟨h1, n, os, h2⟩)

theorem sortD_none (p : Option Addr) (c : Nat) (w : World) : Calls Try.prog 90 #[.slice p 0 c, .func (.func 80) #[] #[]] w fun e w' => e = .returned (.tuple #[]) ∧ w' = w := by
  have hS := AnyF.slices_SortFunc_none (P := Try.prog) (ρ := Try.sortI_ren) { Try.sortI with } p c (.func (.func 80) #[] #[]) w
  exact hS.mono (fun e w' h => h)

theorem sortD_any (b off n c : Nat) (zs : List Int) (w : World) (hz : n ≤ zs.length) (h12 : n < 4611686018427387904) (hb : b < w.heap.size) (hc : ∀ j, j < zs.length → w.cell? ⟨b, off + j, none⟩ = some (.int .i64 (zs.getD j 0))) (hf : ∀ j, j < n → w.frozen? ⟨b, off + j, none⟩ = false) :
    Calls Try.prog 90 #[.slice (some ⟨b, off, none⟩) n c, .func (.func 80) #[] #[]] w fun e w' =>
      e = .returned (.tuple #[]) ∧ ∃ q os, w' = grow ((w.drewN q).setCells b off (((zs.take n).mergeSort fun x y => decide (y ≤ x)).map (Value.int .i64))) os := by
  have hH := Lib.holds_of_ints hz hc hf
  have hl : (zs.take n).length = n := by simp; omega
  have hsz : (zs.take n).toArray.size = n := by simpa using hl
  have h := sortD_some b off c (zs.take n).toArray (by rw [hsz]; exact h12) w hH hb
  rw [hsz] at h
  exact h.mono fun e w' ⟨he, q, os, hw⟩ => ⟨he, q, os, by rw [hw]; exact Lib.sorted_world _ w b off q _ _ os hH (by simp)⟩

end Go.Proofs.Ytgkcpmhgmhioiaa
