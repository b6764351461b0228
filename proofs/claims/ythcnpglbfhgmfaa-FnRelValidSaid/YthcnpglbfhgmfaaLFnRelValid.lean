/- FnRelValid: the walk of the law. -/
import Derived.Test.YthcnpglbfhgmfaaDrawRelA
import Derived.Test.YthcnpglbfhgmfaaRelB
namespace Go.Proofs.Ythcnpglbfhgmfaa
set_option maxRecDepth 100000
open Go.RowKit

/-- A make whose guard says yes. -/
theorem wpList_make_want {P : Program} (w : World) {ops : Array Oper} {rest : List Oper} {o : Oper} {a : Act} {Q : Exit → Act → World → Prop}
    (hg : Region.wanted o (yielded ops a.tmps) = true) (l c : Operand) (t : TypeId) (hop : o.op = Op.makeSlice t l c)
    (base : Nat) (e : TypeId) (i : TypeInfo) (z : Value) (size : Nat) (h1 : P.underlying t = some (.slice e)) (h2 : P.info? e = some i) (h3 : i.zero = some z) (h4 : i.size = size)
    (kl kc : IntKind) (L C : Int) (n : Nat) (hl : a.eval l = .int kl L) (hc : a.eval c = .int kc C) (hL : L = (n : Int)) (hC : C = (n : Int)) (b2 : i.bytes * n ≤ 281474976710656) (b3 : n ≤ maxLen) (b4 : base ≤ w.heap.size)
    (hK : ∀ w', w'.ownsRow base e size (.slice (some ⟨w.heap.size, 0, none⟩) n n) n (madeCells z.cells (n * size)).toList → w.grownBy w' none → wpList P ops Q rest (a.put o.dst (.slice (some ⟨w.heap.size, 0, none⟩) n n)) w') :
    wpList P ops Q (o :: rest) a w := by
  refine BigFrame.wpList_want hg fun K hK' => ?_
  obtain ⟨w', hrun, r1, r2⟩ := run_make_full (P := P) w base t e i z size h1 h2 h3 h4 kl kc n b2 b3 b4
  subst hL
  subst hC
  unfold Oper.wp
  simp [execOp, hop, hl, hc, hrun, Result.andThen]
  exact hK' _ _ (hK w' r1 r2)

theorem relB_zeros {n : Nat} (h : 1 ≤ n ∧ n ≤ 12) : relB (List.replicate n 0) = true := by
  rw [relB_in (by simpa using h), upTo_true]
  intro x hx
  have h2 := List.eq_of_mem_replicate hx
  have h3 : (0 : Int) < 2 ^ (List.replicate n (0 : Int)).length := Int.pow_pos (by decide)
  omega

theorem relB_nil : relB [] = false := relB_len (by simp)

set_option maxHeartbeats 4000000 in
theorem fnRelValid_walk (a : Option Addr) (len cap : Nat) (w : World) (h : By w a len cap) :
    Calls Try.prog 6 #[.slice a len cap] w fun e w' => e = .returned (.bool true) ∧ Below w.heap.size w w' := by
  have hlm : len ≤ 9223372036854775807 := by have := h.1; have := h.2.1; unfold maxLen at this; omega
  by_cases hbig : 1048576 < len
  · clear h
    go_enter Try.func6, Try.ntmps6
    go_wp2_with fail
    go_ret
    exact ⟨rfl, Below.refl _ _⟩
  have k0 := Lib.hid (drawRelValid_any a len cap w h)
  clear h
  go_enter Try.func6, Try.ntmps6
  go_wp2_with fail
  refine (k0.out).mono ?_
  rintro ee w1 ⟨xs, g, n, c, hn, rfl, ho, hl, hb0⟩
  have Hn := Lib.hid hn
  clear hn
  have X_0 := Lib.hid (Sl.of_own ho)
  have Ht0 := Lib.hid hb0
  have hws := hb0.size
  clear ho hb0
  obtain ⟨i0, hi, hz0, hz1, hz2⟩ := info_parts info_int
  have hne : ∀ x : Bool, (x != x) = false := by decide
  rcases rel_tf xs with hv | hv
  · have Hv := Lib.hid hv
    have hn12 : 1 ≤ n ∧ n ≤ 12 := by have := (relB_true.1 hv).1; have h9 := Hn.out; omega
    clear hv
    have k1 := Lib.hid (impl_RelValid (some ⟨g, 0, none⟩) n c xs w1 X_0.out)
    rw [Hv.out] at k1
    go_wp2_with fail
    refine (k1.out).mono ?_
    rintro ee w101 ⟨rfl, hb1⟩
    have Ht1 := Lib.hid (Ht0.out.trans (hb1.mono (by have h1 := Ht0.out.size; omega)))
    have X_1 := Lib.hid (X_0.out.below hb1)
    clear hb1
    have k2 := Lib.hid (spec_RelValid (some ⟨g, 0, none⟩) n c xs w101 X_1.out)
    rw [Hv.out] at k2
    go_wp2_with fail
    refine (k2.out).mono ?_
    rintro ee w102 ⟨rfl, hb2⟩
    have Ht2 := Lib.hid (Ht1.out.trans (hb2.mono (by have h1 := Ht1.out.size; omega)))
    have X_2 := Lib.hid (X_1.out.below hb2)
    clear hb2
    go_wp2_with (first
      | (at_make; refine wpList_make_want _ (by kernel_rfl) (.tmp 20) (.tmp 20) 23 rfl w102.heap.size 3 i0 _ 1 Try.underlying23 hi hz0 hz1 .i64 .i64 _ _ n (by rfl) (by rfl) (by rfl) (by rfl) (by rw [hz2]; omega) (by unfold maxLen; omega) (Nat.le_refl _) ?_; intro wm hown hgm))
    have hbm := (Below.refl w102.heap.size w102).grown hgm (Nat.le_refl _) (fun k hk => by cases hk)
    have hom : wm.ownsRow w102.heap.size 3 1 (.slice (some ⟨w102.heap.size, 0, none⟩) n n) n (ints (List.replicate n 0)) := by
      rw [Nat.mul_one, show (Value.int .i64 0).cells = #[Value.int .i64 0] from rfl, toList_madeCells_one] at hown
      have e9 : ints (List.replicate n 0) = List.replicate n (Value.int .i64 0) := by simp [ints]
      rw [e9]
      exact hown
    clear hown hgm
    have Ht3 := Lib.hid (Ht2.out.trans (hbm.mono (by have h1 := Ht2.out.size; omega)))
    have X_3 := Lib.hid (X_2.out.below hbm)
    have M_3 := Lib.hid (Sl.of_own hom)
    clear hbm hom
    have k4 := Lib.hid (impl_RelValid (some ⟨w102.heap.size, 0, none⟩) n n (List.replicate n 0) wm M_3.out)
    rw [relB_zeros hn12] at k4
    go_wp2_with fail
    refine (k4.out).mono ?_
    rintro ee w104 ⟨rfl, hb4⟩
    have Ht4 := Lib.hid (Ht3.out.trans (hb4.mono (by have h1 := Ht3.out.size; omega)))
    have X_4 := Lib.hid (X_3.out.below hb4)
    have M_4 := Lib.hid (M_3.out.below hb4)
    clear hb4
    have k5 := Lib.hid (impl_RelValid none 0 0 [] w104 ⟨rfl, Nat.le_refl _, Nat.zero_le _, fun h => by omega⟩)
    rw [relB_nil] at k5
    go_wp2_with fail
    refine (k5.out).mono ?_
    rintro ee w105 ⟨rfl, hb5⟩
    have Ht5 := Lib.hid (Ht4.out.trans (hb5.mono (by have h1 := Ht4.out.size; omega)))
    have X_5 := Lib.hid (X_4.out.below hb5)
    have M_5 := Lib.hid (M_4.out.below hb5)
    clear hb5
    have k6 := Lib.hid (alive_any w105)
    go_wp2_with fail
    refine (k6.out).mono ?_
    rintro ee w106 ⟨rfl, hb6⟩
    have Ht6 := Lib.hid (Ht5.out.trans (hb6.mono (by have h1 := Ht5.out.size; omega)))
    have X_6 := Lib.hid (X_5.out.below hb6)
    have M_6 := Lib.hid (M_5.out.below hb6)
    clear hb6
    go_wp2_with fail
    go_ret
    exact ⟨rfl, Ht6.out⟩
  · have Hv := Lib.hid hv
    clear hv
    have k7 := Lib.hid (impl_RelValid (some ⟨g, 0, none⟩) n c xs w1 X_0.out)
    rw [Hv.out] at k7
    go_wp2_with fail
    refine (k7.out).mono ?_
    rintro ee w107 ⟨rfl, hb7⟩
    have Ht7 := Lib.hid (Ht0.out.trans (hb7.mono (by have h1 := Ht0.out.size; omega)))
    have X_7 := Lib.hid (X_0.out.below hb7)
    clear hb7
    have k8 := Lib.hid (spec_RelValid (some ⟨g, 0, none⟩) n c xs w107 X_7.out)
    rw [Hv.out] at k8
    go_wp2_with fail
    refine (k8.out).mono ?_
    rintro ee w108 ⟨rfl, hb8⟩
    have Ht8 := Lib.hid (Ht7.out.trans (hb8.mono (by have h1 := Ht7.out.size; omega)))
    have X_8 := Lib.hid (X_7.out.below hb8)
    clear hb8
    have k9 := Lib.hid (impl_RelValid none 0 0 [] w108 ⟨rfl, Nat.le_refl _, Nat.zero_le _, fun h => by omega⟩)
    rw [relB_nil] at k9
    go_wp2_with fail
    refine (k9.out).mono ?_
    rintro ee w109 ⟨rfl, hb9⟩
    have Ht9 := Lib.hid (Ht8.out.trans (hb9.mono (by have h1 := Ht8.out.size; omega)))
    have X_9 := Lib.hid (X_8.out.below hb9)
    clear hb9
    have k10 := Lib.hid (alive_any w109)
    go_wp2_with fail
    refine (k10.out).mono ?_
    rintro ee w110 ⟨rfl, hb10⟩
    have Ht10 := Lib.hid (Ht9.out.trans (hb10.mono (by have h1 := Ht9.out.size; omega)))
    have X_10 := Lib.hid (X_9.out.below hb10)
    clear hb10
    go_wp2_with fail
    go_ret
    exact ⟨rfl, Ht10.out⟩

end Go.Proofs.Ythcnpglbfhgmfaa
