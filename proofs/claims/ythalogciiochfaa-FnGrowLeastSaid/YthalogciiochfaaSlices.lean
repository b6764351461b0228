/- What the program calls of package slices: Equal of numbers, Grow and Concat of terms. -/
import Derived.Test.YthalogciiochfaaMake
import Derived.Test.YthalogciiochfaaPick
import Derived.Test.YthalogciiochfaaRawKit
import Derived.Deep.LoopGhost
import Derived.Deep.DeepCutAuto
import Derived.Lib.AppendZeros
import Derived.Laws.AppendOwnNone
namespace Go.Proofs.Ythalogciiochfaa
set_option maxRecDepth 100000
open Go.RowKit

set_option maxHeartbeats 1000000 in
theorem slicesEqual_any (a1 a2 : Option Addr) (n1 c1 n2 c2 : Nat) (xs ys : List Int) (w : World) (hb : n1 ≤ 1000000000000) (hx : Sl w a1 n1 c1 xs) (hy : Sl w a2 n2 c2 ys) :
    Calls Try.prog 82 #[.slice a1 n1 c1, .slice a2 n2 c2] w fun e w' => e = .returned (.bool (eqB xs ys)) ∧ Below w.heap.size w w' := by
  obtain ⟨x1, x2, x3, x4⟩ := hx
  obtain ⟨y1, y2, y3, y4⟩ := hy
  have X1 := Lib.hid x1
  have X4 := Lib.hid x4
  have Y1 := Lib.hid y1
  have Y4 := Lib.hid y4
  clear x1 x4 y1 y4
  by_cases hn : n1 = n2
  · subst hn
    go_enter Try.func82, Try.ntmps82
    go_wp2_with fail
    go_loopg [13] n1 (fun gk i wr => ∃ (k : Nat), gk + k = n1 ∧ i = .int .i64 k ∧ Hid (∀ j, j < k → xs.getD j 0 = ys.getD j 0) ∧ Below w.heap.size w wr)
    case atStart => exact ⟨0, rfl, rfl, fun j hj => by omega, Below.refl _ _⟩
    case round =>
      obtain ⟨k, hgk, rfl, HE, hbel⟩ := hrel
      have Hgk := Lib.hid hgk
      have hk : k ≤ n1 := by omega
      by_cases hlt : k < n1
      · obtain ⟨b, off, rfl, hat⟩ := X4.out (by omega)
        obtain ⟨b', off', rfl, hat'⟩ := Y4.out (by omega)
        have hkx : k < xs.length := by rw [X1.out]; exact hlt
        have hky : k < ys.length := by rw [Y1.out]; exact hlt
        have hx : wr.cell? ⟨b, off + k, none⟩ = some (.int .i64 (xs.getD k 0)) := (hbel.cell (p := ⟨b, off + k, none⟩) (by exact hat.lt (by intro h; rw [h] at hkx; simp at hkx))).trans (hat k hkx)
        have hy : wr.cell? ⟨b', off' + k, none⟩ = some (.int .i64 (ys.getD k 0)) := (hbel.cell (p := ⟨b', off' + k, none⟩) (by exact hat'.lt (by intro h; rw [h] at hky; simp at hky))).trans (hat' k hky)
        obtain ⟨x, hxe⟩ : ∃ x, x = xs.getD k 0 := ⟨_, rfl⟩
        obtain ⟨y, hye⟩ : ∃ x, x = ys.getD k 0 := ⟨_, rfl⟩
        rw [← hxe] at hx
        rw [← hye] at hy
        have Hx := Lib.hid hxe
        have Hy := Lib.hid hye
        clear hkx hky hxe hye hgk
        by_cases hxy : x = y
        · subst hxy
          go_wp2_with fail
          go_quiet (fail)
          go_wp2_with fail
          go_roundg (gk - 1)
          case measure => have := Hgk.out; omega
          case rel =>
            refine ⟨k + 1, by have := Hgk.out; omega, by go_num, fun j hj => ?_, hbel.trans (Joins.below_draws _ _ _)⟩
            by_cases hjk : j = k
            · subst hjk; rw [← Hx.out, ← Hy.out]
            · exact HE.out j (by omega)
        · have hne : (x != y) = true := by simp [hxy]
          have HXY := Lib.hid hxy
          clear hxy
          go_wp2_with fail
          go_quiet (fail)
          go_wp2_with fail
          go_ret
          exact ⟨by rw [eqB_at (k := k) (by rw [← Hx.out, ← Hy.out]; exact HXY.out)]; rfl, hbel.trans (Joins.below_draws _ _ _)⟩
      · obtain rfl : k = n1 := by omega
        clear hgk
        go_wp2_with fail
        go_ret
        exact ⟨by rw [eqB_all (by rw [X1.out, Y1.out]) (fun j hj => HE.out j (by rw [← X1.out]; exact hj))]; rfl, hbel⟩
  · have hne : ((n1 : Int) != n2) = true := by simp; omega
    have hf : eqB xs ys = false := eqB_len (by rw [X1.out, Y1.out]; exact hn)
    have HF := Lib.hid hf
    clear hn hf
    go_enter Try.func82, Try.ntmps82
    go_wp2_with fail
    go_ret
    exact ⟨by rw [HF.out]; rfl, Below.refl _ _⟩

/-- At an append whose run is known. -/
theorem wpList_append_run {P : Program} {w : World} {ops : Array Oper} {rest : List Oper} {o : Oper} {a : Act} {Q : Exit → Act → World → Prop} (hgd : o.guard = none) (s x : Operand) (t tn : TypeId)
    (ho : o.op = .call { callee := .builtin .append, args := #[s, x], argTypes := #[t, tn] }) (v u r : Value) (w' : World) (hs : a.eval s = v) (hx : a.eval x = u)
    (hrun : (Builtin.append_ #[t, tn] o.type #[v, u]).run P w = .ok r w') (h : wpList P ops Q rest (a.put o.dst r) w') : wpList P ops Q (o :: rest) a w := by
  refine wpList_plain hgd fun K hK => ?_
  unfold Oper.wp
  simp [execOp, ho, resolve, invoke, builtin, hs, hx, hrun, Result.andThen]
  exact hK _ _ h

/-- slices.Grow of nothing: a row without terms. -/
theorem grow_any (n : Nat) (w : World) (hn : n ≤ 1000000) :
    Calls Try.prog 95 #[.slice none 0 0, .int .i64 n] w fun e w' => ∃ a c, e = .returned (.slice a 0 c) ∧
      w'.ownsRow w.heap.size 63 2 (.slice a 0 c) 0 [] ∧ Below w.heap.size w w' := by
  by_cases h0 : n = 0
  · subst h0
    go_enter Try.func95, Try.ntmps95
    go_wp2_with fail
    go_ret
    exact ⟨none, 0, rfl, ⟨rfl, .inl ⟨rfl, rfl⟩⟩, Below.refl _ _⟩
  · obtain ⟨i0, hi, hz0, hz1, hz2⟩ := info_parts info_term
    have hpos : 0 < n := by omega
    have hp2 : (0 : Int) < n := by omega
    have hr := fun ty => Lib.run_append_nil_zeros (P := Try.prog) w 54 3 ty 63 i0 _ .i64 .i64 Try.underlying54 Try.underlying3 hi hz0 n hpos (by omega) (by omega) (by rw [hz2]; omega)
    obtain ⟨G, hG⟩ : ∃ G, G = grownCap w n 0 63 := ⟨_, rfl⟩
    have hG1 : n ≤ G := by rw [hG]; exact grownCap_ge _ _ _ _
    have hG2 : G ≤ maxLen := by rw [hG]; exact grownCap_le_maxLen _ _ _ _ (by unfold maxLen; omega)
    rw [← hG] at hr
    have hG3 : (0 : Int) ≤ (G : Int) := by omega
    have hw : Below w.heap.size w (w.drew.alloc (.cells (Builtin.zeroCells (Value.agg #[.int .i64 0, .slice none 0 0]).cells n ++ Builtin.zeroCells (Value.agg #[.int .i64 0, .slice none 0 0]).cells (G - n)) 63)) :=
      (Joins.below_draws w.heap.size w 1).alloc (Nat.le_refl _) _
    have ho : (w.drew.alloc (.cells (Builtin.zeroCells (Value.agg #[.int .i64 0, .slice none 0 0]).cells n ++ Builtin.zeroCells (Value.agg #[.int .i64 0, .slice none 0 0]).cells (G - n)) 63)).ownsRow w.heap.size 63 2 (.slice (some ⟨w.heap.size, 0, none⟩) 0 G) 0 [] := by
      refine ⟨rfl, .inr ⟨w.heap.size, G, _, rfl, Nat.le_refl _, heap_alloc_new w.drew _, Nat.zero_le _, hG2, ?_, by simp⟩⟩
      rw [Array.size_append, size_zeroCells, size_zeroCells]
      have h2 : (Value.agg #[.int .i64 0, .slice none 0 0]).cells.size = 2 := rfl
      rw [h2, ← Nat.add_mul]
      congr 1
      omega
    have Hw := Lib.hid hw
    have Ho := Lib.hid ho
    have Hr := Lib.hid hr
    clear hw ho hG h0 hr
    go_enter Try.func95, Try.ntmps95
    go_wp2_with (first
      | (at_builtin; refine wpList_append_run rfl (.tmp 20) (.tmp 21) 54 3 rfl _ _ _ _ rfl rfl (Hr.out _) ?_))
    go_ret
    exact ⟨_, G, rfl, Ho.out, Hw.out⟩

end Go.Proofs.Ythalogciiochfaa
