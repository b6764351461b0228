/- The laws' own helpers: copies and comparisons of lists. -/
import Derived.Test.YtdcgcohfbcdnnaaValid
namespace Go.Proofs.Ytdcgcohfbcdnnaa
set_option maxRecDepth 100000
open Go.RowKit

def ints (xs : List Int) : List Value := xs.map (.int .i64)
theorem ints_len (xs : List Int) : (ints xs).length = xs.length := by simp [ints]
theorem ints_get (xs : List Int) (j : Nat) (h : j < xs.length) : (ints xs)[j]? = some (.int .i64 (xs.getD j 0)) := by simp [ints, h]

/-- A row of numbers that the call made, as a slice. -/
theorem Sl.of_own {w : World} {B n cap : Nat} {ao : Option Addr} {xs : List Int} (h : w.ownsRow B 3 1 (.slice ao n cap) n (ints xs)) : Sl w ao n cap xs := by
  have hl : xs.length = n := by have := h.1; rw [ints_len] at this; omega
  rcases h.2 with ⟨h1, h2⟩ | ⟨g, c, cur, h1, h2, h3, h4, h5, h6, h7⟩
  · simp at h1
    obtain ⟨rfl, rfl, rfl⟩ := h1
    exact ⟨hl, Nat.le_refl _, Nat.zero_le _, fun h => by omega⟩
  · simp at h1
    obtain ⟨rfl, rfl⟩ := h1
    refine ⟨hl, h4, h5, fun _ => ⟨g, 0, rfl, fun j hj => ?_⟩⟩
    rw [Nat.zero_add, h.cellAt j (by omega), ints_get xs j hj]

theorem sl_of_row {w : World} {a : Option Addr} {len cap : Nat} {zs : List Int}
    (h : (a = none ∧ len = 0 ∧ cap = 0 ∧ zs = []) ∨
      ∃ x, a = some x ∧ len ≤ cap ∧ cap ≤ maxLen ∧ zs.length = cap ∧ (∀ i, i < zs.length → w.cell? (x.add i) = some (.int .i64 (zs.getD i 0))) ∧ ∀ n ∈ zs, (Lit.int .i64 n).wf = true) :
    Sl w a len cap (zs.take len) := by
  rcases h with ⟨rfl, rfl, rfl, rfl⟩ | ⟨x, rfl, hl, hm, hz, hcell, _⟩
  · exact ⟨rfl, Nat.le_refl _, Nat.zero_le _, fun h => by omega⟩
  · refine ⟨by rw [List.length_take]; omega, hl, hm, fun hp => ?_⟩
    obtain ⟨b, off, spot⟩ := x
    have hc := hcell 0 (by omega)
    have hspot : spot = none := by simpa [Addr.add] using World.cell?_spot hc
    subst hspot
    refine ⟨b, off, rfl, fun j hj => ?_⟩
    rw [List.length_take] at hj
    have h1 := hcell j (by omega)
    rw [Addr.add_lit] at h1
    rw [h1]
    simp [List.getD, show j < len by omega]

theorem set_next (xs : List Int) (k : Nat) (z : Value) (zs : List Value) (h : k < xs.length) :
    (ints (xs.take k) ++ z :: zs).set k (.int .i64 (xs.getD k 0)) = ints (xs.take (k + 1)) ++ zs := by
  have hl : (ints (xs.take k)).length = k := by rw [ints_len, List.length_take]; omega
  have h1 : xs.take (k + 1) = xs.take k ++ [xs.getD k 0] := by
    rw [List.take_succ_eq_append_getElem h]
    simp [List.getD, h]
  rw [List.set_append_right _ _ (by omega), hl, Nat.sub_self, h1]
  simp [ints]

set_option maxHeartbeats 1000000 in
theorem toIntS_any (ao : Option Addr) (len cap : Nat) (xs : List Int) (w : World) (hb : len ≤ 1000000000000) (h : Sl w ao len cap xs) :
    Calls Try.prog 13 #[.slice ao len cap] w fun e w' => e = .returned (.slice (some ⟨w.heap.size, 0, none⟩) len len) ∧
      w'.ownsRow w.heap.size 3 1 (.slice (some ⟨w.heap.size, 0, none⟩) len len) len (ints xs) ∧ Below w.heap.size w w' := by
  obtain ⟨h1, h2, h3, h4⟩ := h
  obtain ⟨i0, hi, hz0, hz1, hz2⟩ := info_parts info_int
  have H1 := Lib.hid h1
  have H4 := Lib.hid h4
  clear h1 h4
  go_enter Try.func13, Try.ntmps13
  go_wp2_with (first
    | (at_make; refine wpList_make_full _ rfl (.tmp 6) (.tmp 6) 22 rfl w.heap.size 3 i0 _ 1 Try.underlying22 hi hz0 hz1 .i64 .i64 _ _ len rfl rfl rfl rfl (by rw [hz2]; omega) (by unfold maxLen; omega) (Nat.le_refl _) ?_; intro w1 hown hg1))
  go_loopw [4] (fun i wr => ∃ (k : Nat) (zs : List Value), k ≤ len ∧ i = .int .i64 k ∧ wr.ownsRow w.heap.size 3 1 (.slice (some ⟨w.heap.size, 0, none⟩) len len) len (ints (xs.take k) ++ zs) ∧ Below w.heap.size w wr) (fun i _ => len - (intOf i).toNat)
  case atStart => exact ⟨0, _, Nat.zero_le _, rfl, hown, (Below.refl _ _).grown hg1 (Nat.le_refl _) (fun k hk => by cases hk)⟩
  case round =>
    obtain ⟨k, zs, hk, rfl, ho, hbel⟩ := hrel
    by_cases hlt : k < len
    · obtain ⟨b, off, rfl, hat⟩ := H4.out (by omega)
      have hkx : k < xs.length := by rw [H1.out]; exact hlt
      have hx : wr.cell? ⟨b, off + k, none⟩ = some (.int .i64 (xs.getD k 0)) := (hbel.cell (p := ⟨b, off + k, none⟩) (by exact hat.lt (by intro h; rw [h] at hkx; simp at hkx))).trans (hat k hkx)
      obtain ⟨x, hxe⟩ : ∃ x, x = xs.getD k 0 := ⟨_, rfl⟩
      rw [← hxe] at hx
      have Hx := Lib.hid hxe
      have hlen := ho.1
      rw [List.length_append, ints_len, List.length_take, H1.out] at hlen
      obtain ⟨z, zs', rfl⟩ : ∃ z zs', zs = z :: zs' := by
        cases zs with
        | nil => simp at hlen <;> omega
        | cons z zs' => exact ⟨z, zs', rfl⟩
      have hc : wr.cell? ⟨w.heap.size, k, none⟩ = some z := by
        have hl : (ints (xs.take k)).length = k := by rw [ints_len, List.length_take]; omega
        rw [ho.cellAt _ (by omega), List.getElem?_append_right (by omega), hl, Nat.sub_self]
        rfl
      have hf := ho.frozenAt k
      clear hkx hxe hlen
      go_wp2_with fail
      go_roundw
      case rel =>
        have h7 := (ho.stored k (.int .i64 x)).1
        rw [Hx.out, set_next xs k z zs' (by rw [H1.out]; exact hlt), ← Hx.out] at h7
        exact ⟨k + 1, zs', by omega, by go_num, h7, hbel.setCell (p := ⟨w.heap.size, k, none⟩) (Nat.le_refl _) _⟩
      case measure => simp [intOf]; omega
    · obtain rfl : k = len := by omega
      go_wp2_with fail
      go_ret
      have hlen := ho.1
      rw [List.length_append, ints_len, List.length_take, H1.out] at hlen
      have hz : zs = [] := by cases zs with
        | nil => rfl
        | cons z zs' => simp at hlen <;> omega
      rw [hz, List.append_nil, List.take_of_length_le (by rw [H1.out]; exact Nat.le_refl _)] at ho
      exact ⟨rfl, ho, hbel⟩

/-- Equality of rows, as a truth that the walk does not open. -/
def eqB (xs ys : List Int) : Bool := decide (xs = ys)
theorem eqB_true {xs ys : List Int} : eqB xs ys = true ↔ xs = ys := by simp [eqB]
theorem eqB_refl (xs : List Int) : eqB xs xs = true := by simp [eqB]

theorem eqB_len {xs ys : List Int} (h : xs.length ≠ ys.length) : eqB xs ys = false := by
  simp only [eqB, decide_eq_false_iff_not]; intro h'; exact h (by rw [h'])
theorem eqB_at {xs ys : List Int} {k : Nat} (h : xs.getD k 0 ≠ ys.getD k 0) : eqB xs ys = false := by
  simp only [eqB, decide_eq_false_iff_not]; intro h'; exact h (by rw [h'])
theorem eqB_all {xs ys : List Int} (hl : xs.length = ys.length) (h : ∀ j, j < xs.length → xs.getD j 0 = ys.getD j 0) : eqB xs ys = true := by
  rw [eqB_true]
  apply List.ext_getElem hl
  intro i h1 h2
  have := h i h1
  simpa [List.getD, h1, h2] using this

set_option maxHeartbeats 1000000 in
theorem eqIntS_any (a1 a2 : Option Addr) (n1 c1 n2 c2 : Nat) (xs ys : List Int) (w : World) (hb : n1 ≤ 1000000000000) (hx : Sl w a1 n1 c1 xs) (hy : Sl w a2 n2 c2 ys) :
    Calls Try.prog 15 #[.slice a1 n1 c1, .slice a2 n2 c2] w fun e w' => e = .returned (.bool (eqB xs ys)) ∧ Below w.heap.size w w' := by
  obtain ⟨x1, x2, x3, x4⟩ := hx
  obtain ⟨y1, y2, y3, y4⟩ := hy
  have X1 := Lib.hid x1
  have X4 := Lib.hid x4
  have Y1 := Lib.hid y1
  have Y4 := Lib.hid y4
  clear x1 x4 y1 y4
  by_cases hn : n1 = n2
  · subst hn
    go_enter Try.func15, Try.ntmps15
    go_wp2_with fail
    go_loopw [5] (fun i wr => ∃ (k : Nat), k ≤ n1 ∧ i = .int .i64 k ∧ Hid (∀ j, j < k → xs.getD j 0 = ys.getD j 0) ∧ Below w.heap.size w wr) (fun i _ => n1 - (intOf i).toNat)
    case atStart => exact ⟨0, Nat.zero_le _, rfl, fun j hj => by omega, Below.refl _ _⟩
    case round =>
      obtain ⟨k, hk, rfl, HE, hbel⟩ := hrel
      by_cases hlt : k < n1
      · obtain ⟨b, off, rfl, hat⟩ := X4.out (by omega)
        obtain ⟨b', off', rfl, hat'⟩ := Y4.out (by omega)
        have hkx : k < xs.length := by rw [X1.out]; exact hlt
        have hky : k < ys.length := by rw [Y1.out]; exact hlt
        have hx : wr.cell? ⟨b, off + k, none⟩ = some (.int .i64 (xs.getD k 0)) := (hbel.cell (p := ⟨b, off + k, none⟩) (by exact hat.lt (by intro h; rw [h] at hkx; simp at hkx))).trans (hat k hkx)
        have hy : wr.cell? ⟨b', off' + k, none⟩ = some (.int .i64 (ys.getD k 0)) := (hbel.cell (p := ⟨b', off' + k, none⟩) (by exact hat'.lt (by intro h; rw [h] at hky; simp at hky))).trans (hat' k hky)
        obtain ⟨x, hxe⟩ : ∃ x, x = xs.getD k 0 := ⟨_, rfl⟩
        obtain ⟨y, hye⟩ : ∃ x, x = ys.getD k 0 := ⟨_, rfl⟩
        rw [← hxe] at hx
        rw [← hye] at hy
        have Hx := Lib.hid hxe
        have Hy := Lib.hid hye
        clear hkx hky hxe hye
        by_cases hxy : x = y
        · subst hxy
          go_wp2_with fail
          go_quiet (fail)
          go_wp2_with fail
          go_roundw
          case rel =>
            refine ⟨k + 1, by omega, by go_num, fun j hj => ?_, hbel.trans (Joins.below_draws _ _ _)⟩
            by_cases hjk : j = k
            · subst hjk; rw [← Hx.out, ← Hy.out]
            · exact HE.out j (by omega)
          case measure => simp [intOf]; omega
        · have hne : (x != y) = true := by simp [hxy]
          have HXY := Lib.hid hxy
          clear hxy
          go_wp2_with fail
          go_quiet (fail)
          go_wp2_with fail
          go_ret
          exact ⟨by rw [eqB_at (k := k) (by rw [← Hx.out, ← Hy.out]; exact HXY.out)]; rfl, hbel.trans (Joins.below_draws _ _ _)⟩
      · obtain rfl : k = n1 := by omega
        go_wp2_with fail
        go_ret
        exact ⟨by rw [eqB_all (by rw [X1.out, Y1.out]) (fun j hj => HE.out j (by rw [← X1.out]; exact hj))]; rfl, hbel⟩
  · have hne : ((n1 : Int) != n2) = true := by simp; omega
    have hf : eqB xs ys = false := eqB_len (by rw [X1.out, Y1.out]; exact hn)
    have HF := Lib.hid hf
    clear hn hf
    go_enter Try.func15, Try.ntmps15
    go_wp2_with fail
    go_ret
    exact ⟨by rw [HF.out]; rfl, Below.refl _ _⟩

end Go.Proofs.Ytdcgcohfbcdnnaa
