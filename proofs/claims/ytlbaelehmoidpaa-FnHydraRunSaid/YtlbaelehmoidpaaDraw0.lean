/- What the laws draw with, and look with: opening a code, alive, sameInts. -/
import Derived.Test.YtlbaelehmoidpaaPick
import Derived.Test.YtlbaelehmoidpaaFn1
namespace Go.Proofs.Ytlbaelehmoidpaa
set_option maxRecDepth 100000
open Go.RowKit

set_option maxHeartbeats 1000000 in
theorem sameInts_any (a1 a2 : Option Addr) (n1 c1 n2 c2 : Nat) (xs ys : List Int) (w : World) (hb : n1 ≤ 1000000000000) (hx : Sl w a1 n1 c1 xs) (hy : Sl w a2 n2 c2 ys) :
    Calls Try.prog 9 #[.slice a1 n1 c1, .slice a2 n2 c2] w fun e w' => e = .returned (.bool (eqB xs ys)) ∧ Below w.heap.size w w' := by
  obtain ⟨x1, x2, x3, x4⟩ := hx
  obtain ⟨y1, y2, y3, y4⟩ := hy
  have X1 := Lib.hid x1
  have X4 := Lib.hid x4
  have Y1 := Lib.hid y1
  have Y4 := Lib.hid y4
  clear x1 x4 y1 y4
  by_cases hn : n1 = n2
  · subst hn
    go_enter Try.func9, Try.ntmps9
    go_wp2_with fail
    go_loopw [5] (fun i wr => ∃ (k : Nat), k ≤ n1 ∧ i = .int .i64 k ∧ Hid (∀ j, j < k → xs.getD j 0 = ys.getD j 0) ∧ Below w.heap.size w wr) (fun i _ => n1 - (intOf i).toNat)
    case atStart => exact ⟨0, Nat.zero_le _, rfl, fun j hj => by omega, Below.refl _ _⟩
    case round =>
      obtain ⟨k, hk, rfl, HE, hbel⟩ := hrel
      by_cases hlt : k < n1
      · obtain ⟨b, off, rfl, hat⟩ := X4.out (by omega)
        obtain ⟨b', off', rfl, hat'⟩ := Y4.out (by omega)
        have hkx : k < xs.length := by rw [X1.out]; exact hlt
        have hky : k < ys.length := by rw [Y1.out]; exact hlt
        have hx : wr.cell? ⟨b, off + k, none⟩ = some (.int .i64 (xs.getD k 0)) := (hbel.cell (p := ⟨b, off + k, none⟩) (by exact hat.lt (by intro h; rw [h] at hkx; simp at hkx))).trans (hat k hkx)
        have hy : wr.cell? ⟨b', off' + k, none⟩ = some (.int .i64 (ys.getD k 0)) := (hbel.cell (p := ⟨b', off' + k, none⟩) (by exact hat'.lt (by intro h; rw [h] at hky; simp at hky))).trans (hat' k hky)
        obtain ⟨x, hxe⟩ : ∃ x, x = xs.getD k 0 := ⟨_, rfl⟩
        obtain ⟨y, hye⟩ : ∃ x, x = ys.getD k 0 := ⟨_, rfl⟩
        rw [← hxe] at hx
        rw [← hye] at hy
        have Hx := Lib.hid hxe
        have Hy := Lib.hid hye
        clear hkx hky hxe hye
        by_cases hxy : x = y
        · subst hxy
          go_wp2_with fail
          go_quiet (fail)
          go_wp2_with fail
          go_roundw
          case rel =>
            refine ⟨k + 1, by omega, by go_num, fun j hj => ?_, hbel.trans (Joins.below_draws _ _ _)⟩
            by_cases hjk : j = k
            · subst hjk; rw [← Hx.out, ← Hy.out]
            · exact HE.out j (by omega)
          case measure => simp [intOf]; omega
        · have hne : (x != y) = true := by simp [hxy]
          have HXY := Lib.hid hxy
          clear hxy
          go_wp2_with fail
          go_quiet (fail)
          go_wp2_with fail
          go_ret
          exact ⟨by rw [eqB_at (k := k) (by rw [← Hx.out, ← Hy.out]; exact HXY.out)]; rfl, hbel.trans (Joins.below_draws _ _ _)⟩
      · obtain rfl : k = n1 := by omega
        go_wp2_with fail
        go_ret
        exact ⟨by rw [eqB_all (by rw [X1.out, Y1.out]) (fun j hj => HE.out j (by rw [← X1.out]; exact hj))]; rfl, hbel⟩
  · have hne : ((n1 : Int) != n2) = true := by simp; omega
    have hf : eqB xs ys = false := eqB_len (by rw [X1.out, Y1.out]; exact hn)
    have HF := Lib.hid hf
    clear hn hf
    go_enter Try.func9, Try.ntmps9
    go_wp2_with fail
    go_ret
    exact ⟨by rw [HF.out]; rfl, Below.refl _ _⟩

/-- A row of bytes that was given. -/
def By (w : World) (a : Option Addr) (len cap : Nat) : Prop :=
  len ≤ cap ∧ cap ≤ maxLen ∧ (0 < len → ∃ b off, a = some ⟨b, off, none⟩ ∧ b < w.heap.size ∧ ∀ j, j < len → ∃ v : Nat, v ≤ 255 ∧ w.cell? ⟨b, off + j, none⟩ = some (.int .u8 v))

theorem u8_wf {n : Int} (h : (Lit.int .u8 n).wf = true) : ∃ v : Nat, v ≤ 255 ∧ n = v := by
  have h1 : 0 ≤ n ∧ n ≤ 255 := by simpa [Lit.wf, IntKind.min, IntKind.max, IntKind.signed, IntKind.bits] using h
  exact ⟨n.toNat, by omega, by omega⟩

theorem by_of_row {w : World} {a : Option Addr} {len cap : Nat} {zs : List Int}
    (h : (a = none ∧ len = 0 ∧ cap = 0 ∧ zs = []) ∨
      ∃ x, a = some x ∧ len ≤ cap ∧ cap ≤ maxLen ∧ zs.length = cap ∧ (∀ i, i < zs.length → w.cell? (x.add i) = some (.int .u8 (zs.getD i 0))) ∧ ∀ n ∈ zs, (Lit.int .u8 n).wf = true) :
    By w a len cap := by
  rcases h with ⟨rfl, rfl, rfl, rfl⟩ | ⟨x, rfl, hl, hm, hz, hcell, hw⟩
  · exact ⟨Nat.le_refl _, Nat.zero_le _, fun h => by omega⟩
  · refine ⟨hl, hm, fun hp => ?_⟩
    obtain ⟨b, off, spot⟩ := x
    have hc := hcell 0 (by omega)
    have hspot : spot = none := by simpa [Addr.add] using World.cell?_spot hc
    subst hspot
    refine ⟨b, off, rfl, World.block_lt_of_cell? w _ hc, fun j hj => ?_⟩
    have h1 := hcell j (by omega)
    rw [Addr.add_lit] at h1
    have hj' : j < zs.length := by omega
    obtain ⟨v, hv, he⟩ := u8_wf (hw (zs.getD j 0) (by simp [List.getD, hj']))
    exact ⟨v, hv, by rw [h1, he]⟩

theorem new_block (w : World) (o : Obj) : (w.alloc o).heap[w.heap.size]? = some o := by
  show (w.heap.push o)[w.heap.size]? = some o
  simp

theorem By.rd {w : World} {a : Option Addr} {len cap n c : Nat} (h : By w a len cap) (hn : n ≤ len) (hn2 : n ≤ 2000) :
    RdOk (w.alloc (.cells #[.slice a n c, .int .i64 0] 60 (0, 0))) w.heap.size 0 := by
  refine ⟨a, n, c, 0, new_block w _, Nat.le_refl _, hn2, fun hp => ?_⟩
  obtain ⟨b, off, h1, h2, h3⟩ := h.2.2 (by omega)
  refine ⟨b, off, h1, h2, fun j hj => ?_⟩
  obtain ⟨v, h4, h5⟩ := h3 j (by omega)
  exact ⟨v, h4, ((Joins.below_alloc1 w _).cell (p := ⟨b, off + j, none⟩) h2).trans h5⟩

theorem open_any (a : Option Addr) (len cap : Nat) (w : World) (h : By w a len cap) :
    Calls Try.prog 22 #[.slice a len cap] w fun e w' => e = .returned (.pointer (some ⟨w.heap.size, 0, none⟩)) ∧ RdOk w' w.heap.size 0 ∧ Below w.heap.size w w' := by
  have H := Lib.hid h
  obtain ⟨h1, h2, h3⟩ := h
  by_cases hl : len ≤ 2000
  · clear h3
    go_enter Try.func22, Try.ntmps22
    go_wp2_with fail
    go_ret
    exact ⟨rfl, H.out.rd (Nat.le_refl _) hl, Joins.below_alloc1 _ _⟩
  · obtain ⟨b, off, rfl, _, _⟩ := h3 (by omega)
    clear h3
    go_enter Try.func22, Try.ntmps22
    go_wp2_with fail
    go_ret
    exact ⟨rfl, H.out.rd (by omega) (Nat.le_refl _), Joins.below_alloc1 _ _⟩

theorem alive_any (w : World) : Calls Try.prog 10 #[] w fun e w' => e = .returned (.bool true) ∧ Below w.heap.size w w' := by
  have k1 := Lib.hid (fun w => impl_OrdOf 0 w (by decide) (by decide))
  have k2 := Lib.hid (fun w => impl_OrdOf 7 w (by decide) (by decide))
  go_enter Try.func10, Try.ntmps10
  go_wp2_with fail
  refine (k1.out _).mono ?_
  rintro ee w1 ⟨a1, c1, rfl, _, hb1⟩
  have Hb1 := Lib.hid hb1
  have e1 : (T.num' 0).length = 1 := rfl
  have e2 : (T.num' 7).length = 3 := rfl
  rw [e1]
  clear hb1
  go_wp2_with fail
  refine (k2.out _).mono ?_
  rintro ee w2 ⟨a2, c2, rfl, _, hb2⟩
  have Hb2 := Lib.hid (Hb1.out.trans (hb2.mono Hb1.out.size))
  rw [e2]
  clear hb2
  go_wp2_with fail
  go_ret
  exact ⟨rfl, Hb2.out⟩

end Go.Proofs.Ytlbaelehmoidpaa
