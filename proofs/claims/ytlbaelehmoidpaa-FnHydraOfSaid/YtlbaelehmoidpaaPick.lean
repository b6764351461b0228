/- The reader of a code: pick and odd. -/
import Derived.Test.YtlbaelehmoidpaaNextS
import Derived.Test.YtlbaelehmoidpaaMark
namespace Go.Proofs.Ytlbaelehmoidpaa
set_option maxRecDepth 100000
open Go.RowKit

/-- The reader lies whole in block g; what it reads lies in elder memory. -/
def RdOk (w : World) (g P : Nat) : Prop :=
  ∃ (ao : Option Addr) (n cap p : Nat), w.heap[g]? = some (.cells #[.slice ao n cap, .int .i64 p] 60 (0, 0)) ∧ p ≤ P ∧ n ≤ 2000 ∧
    (0 < n → ∃ b off, ao = some ⟨b, off, none⟩ ∧ b < g ∧ ∀ j, j < n → ∃ v : Nat, v ≤ 255 ∧ w.cell? ⟨b, off + j, none⟩ = some (.int .u8 v))

theorem RdOk.mono {w : World} {g P P' : Nat} (h : RdOk w g P) (hp : P ≤ P') : RdOk w g P' := by
  obtain ⟨ao, n, cap, p, h1, h2, h3⟩ := h
  exact ⟨ao, n, cap, p, h1, Nat.le_trans h2 hp, h3⟩

/-- It stays behind whatever leaves it and elder memory alone. -/
theorem RdOk.kept {w w' : World} {g P : Nat} {row : Option Nat} (h : RdOk w g P) (hg : w.grownBy w' row) (hr : ∀ k, row = some k → g < k) : RdOk w' g P := by
  obtain ⟨ao, n, cap, p, h1, h2, h3, h4⟩ := h
  have hgl : g < w.heap.size := (Array.getElem?_eq_some_iff.1 h1).1
  refine ⟨ao, n, cap, p, ?_, h2, h3, fun hp => ?_⟩
  · rw [hg.block g hgl (fun e => by have := hr g e.symm; omega)]
    exact h1
  · obtain ⟨b, off, h5, h6, h7⟩ := h4 hp
    refine ⟨b, off, h5, h6, fun j hj => ?_⟩
    obtain ⟨v, h8, h9⟩ := h7 j hj
    exact ⟨v, h8, hg.cell h9 (fun e => by have := hr b e.symm; omega)⟩

theorem grownBy_drew (w : World) (row : Option Nat) (n : Nat) : w.grownBy (w.drewN n) row := ⟨rfl, rfl, rfl, Nat.le_refl _, fun _ _ _ => rfl⟩

theorem RdOk.put {w : World} {g P : Nat} {ao : Option Addr} {n cap p : Nat} (h1 : w.heap[g]? = some (.cells #[.slice ao n cap, .int .i64 p] 60 (0, 0))) (h2 : p + 1 ≤ P) (h3 : n ≤ 2000)
    (h4 : 0 < n → ∃ b off, ao = some ⟨b, off, none⟩ ∧ b < g ∧ ∀ j, j < n → ∃ v : Nat, v ≤ 255 ∧ w.cell? ⟨b, off + j, none⟩ = some (.int .u8 v)) :
    RdOk (w.setCell ⟨g, 1, none⟩ (.int .i64 ((p : Int) + 1))) g P := by
  refine ⟨ao, n, cap, p + 1, ?_, h2, h3, fun hp => ?_⟩
  · have := Joins.block_setCell (i := 1) h1 (.int .i64 ((p : Int) + 1))
    rw [this]
    rfl
  · obtain ⟨b, off, h5, h6, h7⟩ := h4 hp
    refine ⟨b, off, h5, h6, fun j hj => ?_⟩
    obtain ⟨v, h8, h9⟩ := h7 j hj
    exact ⟨v, h8, (World.cell?_setCell_other _ _ _ _ (by simp)).trans h9⟩

theorem grownBy_set {w : World} {g : Nat} {cs : Array Value} {t : TypeId} {fr : Nat × Nat} (_h : w.heap[g]? = some (.cells cs t fr)) (v : Value) : w.grownBy (w.setCell ⟨g, 1, none⟩ v) (some g) :=
  ⟨rfl, rfl, rfl, by simp [World.setCell], fun k _ hk => heap_setCell_other w ⟨g, 1, none⟩ k v (fun e => hk (by simp [e]))⟩

theorem xor_nonneg (x y : Int) (hx0 : 0 ≤ x) (hx1 : x < 4611686018427387904) (hy0 : 0 ≤ y) (hy1 : y < 4611686018427387904) : 0 ≤ bits .xor .i64 x y := by
  obtain ⟨a, rfl⟩ := Int.eq_ofNat_of_zero_le hx0
  obtain ⟨b, rfl⟩ := Int.eq_ofNat_of_zero_le hy0
  have hx : a ^^^ b < 2 ^ 62 := Nat.xor_lt_two_pow (by omega) (by omega)
  have h1 : (BitVec.ofInt 64 (a : Int)).toNat = a := by
    rw [BitVec.ofInt_natCast, BitVec.toNat_ofNat]; exact Nat.mod_eq_of_lt (by omega)
  have h2 : (BitVec.ofInt 64 (b : Int)).toNat = b := by
    rw [BitVec.ofInt_natCast, BitVec.toNat_ofNat]; exact Nat.mod_eq_of_lt (by omega)
  show 0 ≤ IntKind.i64.wrap ((BitVec.ofInt 64 (a : Int) ^^^ BitVec.ofInt 64 (b : Int)).toNat : Int)
  rw [BitVec.toNat_xor, h1, h2, IntKind.wrap_i64]
  omega

theorem pickR_of {m x : Int} (hm : 1 ≤ m) (hx : 0 ≤ x) : 0 ≤ x.tmod m ∧ (1 ≤ m → x.tmod m < m) ∧ (m < 1 → x.tmod m = 0) := by
  rw [Int.tmod_eq_emod_of_nonneg hx]
  exact ⟨Int.emod_nonneg _ (by omega), fun _ => Int.emod_lt_of_pos _ (by omega), fun h => by omega⟩

/-- What pick answers. -/
def PickR (m r : Int) : Prop := 0 ≤ r ∧ (1 ≤ m → r < m) ∧ (m < 1 → r = 0)

set_option maxHeartbeats 2000000 in
set_option maxRecDepth 100000 in
theorem pick_any (g P : Nat) (m : Int) (w : World) (hP : P ≤ 1000000000) (hm : m ≤ 1000000000) (hm0 : -1000000000 ≤ m) (h : RdOk w g P) :
    Calls Try.prog 24 #[.pointer (some ⟨g, 0, none⟩), .int .i64 m] w fun e w' => ∃ r : Int, e = .returned (.int .i64 r) ∧ PickR m r ∧ RdOk w' g (P + 1) ∧ w.grownBy w' (some g) := by
  obtain ⟨ao, n, cap, p, h1, h2, h3, h4⟩ := h
  have x0 : w.cell? ⟨g, 0, none⟩ = some (.slice ao n cap) := Joins.cell_of_block h1 0
  have x1 : w.cell? ⟨g, 1, none⟩ = some (.int .i64 p) := Joins.cell_of_block h1 1
  have f1 : w.frozen? ⟨g, 1, none⟩ = false := Joins.unfrozen_of_block h1 1
  have R := Lib.hid (RdOk.put (P := P + 1) h1 (by omega) h3 h4)
  have G := Lib.hid (grownBy_set h1 (.int .i64 ((p : Int) + 1)))
  have H4 := Lib.hid h4
  have H1 := Lib.hid h1
  clear h4 h1
  by_cases hm1 : m < 1
  · go_enter Try.func24, Try.ntmps24
    go_wp2_with fail
    go_ret
    exact ⟨0, rfl, ⟨by omega, fun h => by omega, fun _ => rfl⟩, R.out, G.out⟩
  · by_cases hn0 : n = 0
    · subst hn0
      go_enter Try.func24, Try.ntmps24
      go_wp2_with fail
      go_ret
      exact ⟨0, rfl, ⟨by omega, fun h => by omega, fun _ => rfl⟩, R.out, G.out⟩
    · obtain ⟨b, off, rfl, hbg, hby⟩ := H4.out (by omega)
      have hne : ((n : Int) == 0) = false := by simpa using hn0
      have Hby := Lib.hid hby
      clear hby
      by_cases hpn : p < n
      · obtain ⟨v, hv, hc⟩ := Hby.out p hpn
        clear hn0
        go_enter Try.func24, Try.ntmps24
        go_wp2_with fail
        go_ret
        exact ⟨(v : Int) % m, rfl, ⟨Int.emod_nonneg _ (by omega), fun h => Int.emod_lt_of_pos _ (by omega), fun h => by omega⟩, R.out, G.out⟩
      · obtain ⟨v1, hv1, hc1⟩ := Hby.out (p % n) (Nat.mod_lt _ (by omega))
        obtain ⟨v2, hv2, hc2⟩ := Hby.out ((p * 7 + 3) % n) (Nat.mod_lt _ (by omega))
        have hb1 : p % n < n := Nat.mod_lt _ (by omega)
        have hb2 : (p * 7 + 3) % n < n := Nat.mod_lt _ (by omega)
        have hb3 : p / n ≤ p := Nat.div_le_self _ _
        have hge : n ≤ p := by omega
        have hnn : ¬ (n : Int) = 0 := by omega
        have e1 : ((p : Int)).tmod n = ((p % n : Nat) : Int) := by rw [Int.tmod_eq_emod_of_nonneg (by omega)]; rfl
        have e2 : (((p : Int) * 7 + 3) % (n : Int)) = (((p * 7 + 3) % n : Nat) : Int) := by rw [Int.natCast_emod]; rfl
        have t2 : (((p : Int) * 7 + 3) % (n : Int)).toNat = (p * 7 + 3) % n := by rw [e2]; rfl
        have t3 : 0 ≤ ((p : Int) * 7 + 3) % (n : Int) := by rw [e2]; omega
        have t4 : ((p : Int) * 7 + 3) % (n : Int) < n := by rw [e2]; omega
        clear e2
        have hd1 : 0 ≤ (p : Int) / (n : Int) := Int.ediv_nonneg (by omega) (by omega)
        have hd2 : (p : Int) / (n : Int) ≤ 1000000000 := by
          have h5 : ((p / n : Nat) : Int) = (p : Int) / (n : Int) := Int.natCast_ediv p n
          omega
        go_enter Try.func24, Try.ntmps24
        go_wp2_with fail
        go_quiet (fail)
        go_wp2_with fail
        go_ret
        exact ⟨_, rfl, pickR_of (by omega) (xor_nonneg _ _ (by omega) (by omega) (by omega) (by omega)), R.out.kept (grownBy_drew _ none _) (fun k hk => by cases hk), grownBy_trans G.out (grownBy_drew _ _ _)⟩

theorem odd_any (g P : Nat) (m : Int) (w : World) (hP : P ≤ 1000000000) (hm : m ≤ 1000000000) (hm0 : 0 ≤ m) (h : RdOk w g P) :
    Calls Try.prog 46 #[.pointer (some ⟨g, 0, none⟩), .int .i64 m] w fun e w' => ∃ r : Bool, e = .returned (.bool r) ∧ RdOk w' g (P + 1) ∧ w.grownBy w' (some g) := by
  by_cases hm1 : 0 < m
  · have k := Lib.hid (pick_any g P m w hP hm (by omega) h)
    clear h
    go_enter Try.func46, Try.ntmps46
    go_wp2_with fail
    refine (k.out).mono ?_
    rintro ee w1 ⟨r, rfl, hr, h1, h2⟩
    have H1 := Lib.hid h1
    have H2 := Lib.hid h2
    clear h1 h2 hr
    go_wp2_with fail
    go_ret
    exact ⟨_, rfl, H1.out, H2.out⟩
  · have H := Lib.hid (h.mono (Nat.le_succ P))
    have hz : decide (0 < m) = false := by simpa using hm1
    clear h
    go_enter Try.func46, Try.ntmps46
    go_wp2_with fail
    go_ret
    exact ⟨.inl rfl, H.out, World.grownBy.refl _ _⟩

end Go.Proofs.Ytlbaelehmoidpaa
