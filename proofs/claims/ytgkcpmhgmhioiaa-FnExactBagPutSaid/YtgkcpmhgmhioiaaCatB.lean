/- slices.Concat of however many slices of numbers (impl.multiset[int]). -/
import Derived.Test.YtgkcpmhgmhioiaaLawKit
import Derived.Test.YtgkcpmhgmhioiaaMake
import Derived.Deep.LoopGhost
import Derived.Deep.DeepCutAuto
import Derived.Lib.AppendZeros
import Derived.Laws.AppendOwnNone
namespace Go.Proofs.Ytgkcpmhgmhioiaa
set_option maxRecDepth 100000
open Go.RowKit
namespace CB

/-- A slice of cells that can be read, or nil. -/
def Rd (w : World) (a : Option Addr) (n c : Nat) (l : List Value) : Prop :=
  l.length = n * 1 ∧ (∀ u ∈ l, u.oneCell' = true) ∧ ((a = none ∧ n = 0 ∧ c = 0) ∨ ∃ x : Addr, a = some x ∧ ∀ j u, l[j]? = some u → w.cell? (x.add j) = some u)

theorem Rd.below {w w' : World} {a : Option Addr} {n c : Nat} {l : List Value} (h : Rd w a n c l) (hb : Below w.heap.size w w') : Rd w' a n c l := by
  refine ⟨h.1, h.2.1, ?_⟩
  rcases h.2.2 with h1 | ⟨x, h1, h2⟩
  · exact .inl h1
  · refine .inr ⟨x, h1, fun j u hj => ?_⟩
    have h3 := h2 j u hj
    have h4 := World.block_lt_of_cell? w _ h3
    rw [hb.cell h4]
    exact h3

theorem own_shape {w : World} {B e n size : Nat} {v : Value} {xs : List Value} (h : w.ownsRow B e size v n xs) : ∃ a c, v = .slice a n c := by
  rcases h.2 with ⟨h1, h2⟩ | ⟨g, cap, cur, h0, _⟩
  · exact ⟨none, 0, by rw [h1, h2]⟩
  · exact ⟨_, cap, h0⟩


def CatPost (w : World) (n : Nat) (l : List Value) (e : Ending) (w' : World) : Prop :=
  ∃ a c', e = .returned (.slice a n c') ∧ w'.ownsRow w.heap.size 3 1 (.slice a n c') n l ∧ Below w.heap.size w w'


/-- At an append whose run is known. -/
theorem wpList_append_run {P : Program} {w : World} {ops : Array Oper} {rest : List Oper} {o : Oper} {a : Act} {Q : Exit → Act → World → Prop} (hgd : o.guard = none) (s x : Operand) (t tn : TypeId)
    (ho : o.op = .call { callee := .builtin .append, args := #[s, x], argTypes := #[t, tn] }) (v u r : Value) (w' : World) (hs : a.eval s = v) (hx : a.eval x = u)
    (hrun : (Builtin.append_ #[t, tn] o.type #[v, u]).run P w = .ok r w') (h : wpList P ops Q rest (a.put o.dst r) w') : wpList P ops Q (o :: rest) a w := by
  refine wpList_plain hgd fun K hK => ?_
  unfold Oper.wp
  simp [execOp, ho, resolve, invoke, builtin, hs, hx, hrun, Result.andThen]
  exact hK _ _ h

/-- slices.Grow of nothing: a row without terms. -/
theorem grow_any (n : Nat) (w : World) (hn : n ≤ 1000000) :
    Calls Try.prog 92 #[.slice none 0 0, .int .i64 n] w fun e w' => ∃ a c, e = .returned (.slice a 0 c) ∧
      w'.ownsRow w.heap.size 3 1 (.slice a 0 c) 0 [] ∧ Below w.heap.size w w' := by
  by_cases h0 : n = 0
  · subst h0
    go_enter Try.func92, Try.ntmps92
    go_wp2_with fail
    go_ret
    exact ⟨none, 0, rfl, ⟨rfl, .inl ⟨rfl, rfl⟩⟩, Below.refl _ _⟩
  · obtain ⟨i0, hi, hz0, hz1, hz2⟩ := info_parts info_int
    have hpos : 0 < n := by omega
    have hp2 : (0 : Int) < n := by omega
    have hr := fun ty => Lib.run_append_nil_zeros (P := Try.prog) w 61 3 ty 3 i0 _ .i64 .i64 Try.underlying61 Try.underlying3 hi hz0 n hpos (by omega) (by omega) (by rw [hz2]; omega)
    obtain ⟨G, hG⟩ : ∃ G, G = grownCap w n 0 3 := ⟨_, rfl⟩
    have hG1 : n ≤ G := by rw [hG]; exact grownCap_ge _ _ _ _
    have hG2 : G ≤ maxLen := by rw [hG]; exact grownCap_le_maxLen _ _ _ _ (by unfold maxLen; omega)
    rw [← hG] at hr
    have hG3 : (0 : Int) ≤ (G : Int) := by omega
    have hw : Below w.heap.size w (w.drew.alloc (.cells (Builtin.zeroCells (Value.int .i64 0).cells n ++ Builtin.zeroCells (Value.int .i64 0).cells (G - n)) 3)) :=
      (Joins.below_draws w.heap.size w 1).alloc (Nat.le_refl _) _
    have ho : (w.drew.alloc (.cells (Builtin.zeroCells (Value.int .i64 0).cells n ++ Builtin.zeroCells (Value.int .i64 0).cells (G - n)) 3)).ownsRow w.heap.size 3 1 (.slice (some ⟨w.heap.size, 0, none⟩) 0 G) 0 [] := by
      refine ⟨rfl, .inr ⟨w.heap.size, G, _, rfl, Nat.le_refl _, heap_alloc_new w.drew _, Nat.zero_le _, hG2, ?_, by simp⟩⟩
      rw [Array.size_append, size_zeroCells, size_zeroCells]
      have h2 : (Value.int .i64 0).cells.size = 1 := rfl
      rw [h2]
      omega
    have Hw := Lib.hid hw
    have Ho := Lib.hid ho
    have Hr := Lib.hid hr
    clear hw ho hG h0 hr
    go_enter Try.func92, Try.ntmps92
    go_wp2_with (first
      | (at_builtin; refine wpList_append_run rfl (.tmp 20) (.tmp 21) 61 3 rfl _ _ _ _ rfl rfl (Hr.out _) ?_))
    go_ret
    exact ⟨_, G, rfl, Ho.out, Hw.out⟩

def psum (ns : Nat → Nat) : Nat → Nat
  | 0 => 0
  | i + 1 => psum ns i + ns i
def pcat (ls : Nat → List Value) : Nat → List Value
  | 0 => []
  | i + 1 => pcat ls i ++ ls i
theorem psum_le {ns : Nat → Nat} {K : Nat} (hb : ∀ i, i < K → ns i ≤ 10000) : ∀ i, i ≤ K → psum ns i ≤ i * 10000 := by
  intro i
  induction i with
  | zero => intro _; exact Nat.le_refl _
  | succ i ih =>
    intro h
    have h1 := ih (by omega)
    have h2 := hb i (by omega)
    rw [psum]
    omega

def CatLoop (w : World) (K : Nat) (ns : Nat → Nat) (ls : Nat → List Value) (gk : Nat) (v6 v27 : Value) (wr : World) : Prop :=
  ∃ (i : Nat) (a : Option Addr) (c : Nat), v27 = .int .i64 i ∧ gk + i = K ∧ v6 = .slice a (psum ns i) c ∧ wr.ownsRow w.heap.size 3 1 v6 (psum ns i) (pcat ls i) ∧ Below w.heap.size w wr

set_option maxHeartbeats 4000000 in
theorem concat_any (K g c : Nat) (ads : Nat → Option Addr) (ns cs : Nat → Nat) (ls : Nat → List Value) (w : World) (hK0 : 0 < K) (hK : K ≤ 10)
    (hc : ∀ i, i < K → w.cell? ⟨g, i, none⟩ = some (.slice (ads i) (ns i) (cs i))) (hr : ∀ i, i < K → Rd w (ads i) (ns i) (cs i) (ls i)) (hb : ∀ i, i < K → ns i ≤ 10000) :
    Calls Try.prog 83 #[.slice (some ⟨g, 0, none⟩) K c] w (CatPost w (psum ns K) (pcat ls K)) := by
  obtain ⟨i0, hi, hz0, hz1, hz2⟩ := info_parts info_int
  have HC := Lib.hid hc
  have HR := Lib.hid hr
  have HB := Lib.hid hb
  have hgl : g < w.heap.size := World.block_lt_of_cell? w _ (hc 0 hK0)
  have HP := Lib.hid (psum_le hb)
  have kg := Lib.hid (grow_any (psum ns K) w (by have := psum_le hb K (Nat.le_refl _); omega))
  clear hc hr hb
  go_enter Try.func83, Try.ntmps83
  go_wp2_with fail
  go_loopg [3, 11] K (fun gk v3 v11 wr => w = wr ∧ ∃ i : Nat, v11 = .int .i64 i ∧ gk + i = K ∧ v3 = .int .i64 (psum ns i : Nat))
  case atStart => exact ⟨rfl, 0, rfl, rfl, rfl⟩
  case round =>
    obtain ⟨rfl, i, rfl, hgk, rfl⟩ := hrel
    have Hgk := Lib.hid hgk
    have hik : i ≤ K := by omega
    have hsb : psum ns i ≤ 100000 := by have := HP.out i hik; omega
    clear hgk
    by_cases hlt : i < K
    · have xC := HC.out i hlt
      have hn := HB.out i hlt
      obtain ⟨s, hs⟩ : ∃ s, s = psum ns i := ⟨_, rfl⟩
      obtain ⟨n, hn'⟩ : ∃ n, n = ns i := ⟨_, rfl⟩
      rw [← hs] at hsb ⊢
      rw [← hn'] at hn xC
      have Hs := Lib.hid hs
      have Hn := Lib.hid hn'
      clear hs hn'
      go_wp2_with fail
      go_roundg (gk - 1)
      case measure => have := Hgk.out; omega
      case rel => exact ⟨rfl, i + 1, by go_num, by have := Hgk.out; omega, congrArg (Value.int .i64) (by show _ = ((psum ns i + ns i : Nat) : Int); rw [← Hs.out, ← Hn.out]; omega)⟩
    · obtain rfl : K = i := by omega
      go_wp2_with fail
      refine (kg.out).mono ?_
      rintro ee w1 ⟨a, cc, rfl, ho1, hb1⟩
      have hfin : CatLoop w K ns ls K (.slice a 0 cc) (.int .i64 (0 : Nat)) w1 := ⟨0, a, cc, rfl, rfl, rfl, ho1, hb1⟩
      have Hfin := Lib.hid hfin
      clear ho1 hb1 hfin
      go_wp2_with fail
      go_loopg [6, 27] K (fun gk v6 v27 wr => CatLoop w K ns ls gk v6 v27 wr)
      case atStart => exact Hfin.out
      case round =>
        obtain ⟨i, a, cc, rfl, hgk, rfl, ho, hb⟩ := hrel
        have Hgk2 := Lib.hid hgk
        have hik : i ≤ K := by omega
        have hsb : psum ns i ≤ 100000 := by have := HP.out i hik; omega
        have Hb := Lib.hid hb
        have Ho := Lib.hid ho
        have hws : w.heap.size ≤ wr.heap.size := hb.size
        clear hgk hb ho
        by_cases hlt : i < K
        · have xC := (Hb.out.cell (p := ⟨g, i, none⟩) hgl).trans (HC.out i hlt)
          have hn := HB.out i hlt
          have hR := (HR.out i hlt).below Hb.out
          obtain ⟨s, hs⟩ : ∃ s, s = psum ns i := ⟨_, rfl⟩
          obtain ⟨q, hq⟩ : ∃ q, q = pcat ls i := ⟨_, rfl⟩
          obtain ⟨n, hn'⟩ : ∃ n, n = ns i := ⟨_, rfl⟩
          obtain ⟨l, hl'⟩ : ∃ l, l = ls i := ⟨_, rfl⟩
          obtain ⟨k, hk'⟩ : ∃ k, k = cs i := ⟨_, rfl⟩
          obtain ⟨ad, had⟩ : ∃ ad, ad = ads i := ⟨_, rfl⟩
          have hnext : psum ns (i + 1) = s + n ∧ pcat ls (i + 1) = q ++ l := ⟨by rw [hs, hn']; rfl, by rw [hq, hl']; rfl⟩
          rw [← hs, ← hq] at Ho
          rw [← hs] at hsb ⊢
          rw [← hn'] at hn
          rw [← hn', ← hl', ← hk', ← had] at hR
          rw [← hn', ← hk', ← had] at xC
          have Hnext := Lib.hid hnext
          have Hl := Lib.hid (show l.length = n * 1 from hR.1)
          have H1 := Lib.hid hR.2.1
          clear hs hq hn' hl' hk' had hnext
          rcases hR.2.2 with ⟨ha, hn0, hcc⟩ | ⟨x, ha, hrd⟩
          · have hl0 : l = [] := List.length_eq_zero_iff.1 (by rw [Hl.out, hn0])
            have hfin : CatLoop w K ns ls (gk - 1) (.slice a s cc) (.int .i64 ((i + 1 : Nat) : Int)) wr := by
              have e1 : psum ns (i + 1) = s := by rw [Hnext.out.1, hn0]; rfl
              have e2 : pcat ls (i + 1) = q := by rw [Hnext.out.2, hl0, List.append_nil]
              exact ⟨i + 1, a, cc, rfl, by have := Hgk2.out; omega, by rw [e1], by rw [e1, e2]; exact Ho.out, Hb.out⟩
            have Hfin := Lib.hid hfin
            obtain rfl := ha
            obtain rfl := hcc
            subst hn0
            clear hfin hl0 hR
            go_wp2_with (first
              | (at_builtin; refine wpList_append_own_none rfl (.tmp 31) (.tmp 32) 61 rfl w.heap.size 3 i0 1 Try.underlying61 hi _ s q rfl Ho.out rfl ?_))
            go_roundg (gk - 1)
            case measure => have := Hgk2.out; omega
            case rel => exact Hfin.out
          · have Hrd := Lib.hid hrd
            obtain rfl := ha
            clear hR hrd
            go_wp2_with (first
              | (at_builtin; refine wpList_append_own _ rfl (.tmp 31) (.tmp 32) 61 rfl w.heap.size 3 i0 (.int .i64 0) 1 8 Try.underlying61 hi hz0 hz1 hz2 rfl (by decide) _ s q rfl Ho.out x n _ l rfl Hl.out Hrd.out H1.out (by unfold maxLen; omega) (by omega) (by omega) ?_; intro v1 w2 ho2 hg2 _))
            obtain ⟨a2, cc2, rfl⟩ := own_shape ho2
            have hfin : CatLoop w K ns ls (gk - 1) (.slice a2 (s + n) cc2) (.int .i64 ((i + 1 : Nat) : Int)) w2 := by
              refine ⟨i + 1, a2, cc2, rfl, by have := Hgk2.out; omega, by rw [Hnext.out.1], by rw [Hnext.out.1, Hnext.out.2]; exact ho2, Hb.out.grown hg2 hws (fun r e => (Ho.out.lt r e).1)⟩
            have Hfin := Lib.hid hfin
            clear hfin ho2 hg2
            go_wp2_with fail
            go_roundg (gk - 1)
            case measure => have := Hgk2.out; omega
            case rel => exact Hfin.out
        · obtain rfl : K = i := by omega
          go_wp2_with fail
          go_ret
          exact ⟨a, cc, rfl, Ho.out, Hb.out⟩


theorem concat3_any (g c : Nat) (a1 a2 a3 : Option Addr) (n1 c1 n2 c2 n3 c3 : Nat) (l1 l2 l3 : List Value) (w : World)
    (h1 : w.cell? ⟨g, 0, none⟩ = some (.slice a1 n1 c1)) (h2 : w.cell? ⟨g, 1, none⟩ = some (.slice a2 n2 c2)) (h3 : w.cell? ⟨g, 2, none⟩ = some (.slice a3 n3 c3)) (r1 : Rd w a1 n1 c1 l1) (r2 : Rd w a2 n2 c2 l2) (r3 : Rd w a3 n3 c3 l3) (b1 : n1 ≤ 10000) (b2 : n2 ≤ 10000) (b3 : n3 ≤ 10000) :
    Calls Try.prog 83 #[.slice (some ⟨g, 0, none⟩) 3 c] w (CatPost w (n1 + n2 + n3) (l1 ++ l2 ++ l3)) := by
  have hcase : ∀ {j : Nat}, j < 3 → j = 0 ∨ j = 1 ∨ j = 2 := fun h => by omega
  have h := concat_any 3 g c (fun j => match j with | 0 => a1 | 1 => a2 | _ => a3) (fun j => match j with | 0 => n1 | 1 => n2 | _ => n3) (fun j => match j with | 0 => c1 | 1 => c2 | _ => c3) (fun j => match j with | 0 => l1 | 1 => l2 | _ => l3) w (by decide) (by decide)
    (fun j hj => by
      rcases hcase hj with rfl | rfl | rfl
      · exact h1
      · exact h2
      · exact h3) (fun j hj => by
      rcases hcase hj with rfl | rfl | rfl
      · exact r1
      · exact r2
      · exact r3) (fun j hj => by
      rcases hcase hj with rfl | rfl | rfl
      · exact b1
      · exact b2
      · exact b3)
  have e1 : psum (fun j => match j with | 0 => n1 | 1 => n2 | _ => n3) 3 = n1 + n2 + n3 := by simp [psum]
  have e2 : pcat (fun j => match j with | 0 => l1 | 1 => l2 | _ => l3) 3 = l1 ++ l2 ++ l3 := by simp [pcat]
  rw [e1, e2] at h
  exact h

theorem concat2_any (g c : Nat) (a1 a2 : Option Addr) (n1 c1 n2 c2 : Nat) (l1 l2 : List Value) (w : World)
    (h1 : w.cell? ⟨g, 0, none⟩ = some (.slice a1 n1 c1)) (h2 : w.cell? ⟨g, 1, none⟩ = some (.slice a2 n2 c2)) (r1 : Rd w a1 n1 c1 l1) (r2 : Rd w a2 n2 c2 l2) (b1 : n1 ≤ 10000) (b2 : n2 ≤ 10000) :
    Calls Try.prog 83 #[.slice (some ⟨g, 0, none⟩) 2 c] w (CatPost w (n1 + n2) (l1 ++ l2)) := by
  have hcase : ∀ {j : Nat}, j < 2 → j = 0 ∨ j = 1 := fun h => by omega
  have h := concat_any 2 g c (fun j => match j with | 0 => a1 | _ => a2) (fun j => match j with | 0 => n1 | _ => n2) (fun j => match j with | 0 => c1 | _ => c2) (fun j => match j with | 0 => l1 | _ => l2) w (by decide) (by decide)
    (fun j hj => by
      rcases hcase hj with rfl | rfl
      · exact h1
      · exact h2) (fun j hj => by
      rcases hcase hj with rfl | rfl
      · exact r1
      · exact r2) (fun j hj => by
      rcases hcase hj with rfl | rfl
      · exact b1
      · exact b2)
  have e1 : psum (fun j => match j with | 0 => n1 | _ => n2) 2 = n1 + n2 := by simp [psum]
  have e2 : pcat (fun j => match j with | 0 => l1 | _ => l2) 2 = l1 ++ l2 := by simp [pcat]
  rw [e1, e2] at h
  exact h

/-- A slice of numbers that can be read. -/
theorem Rd.of_at {w : World} {b o n c : Nat} {xs : List Int} (hl : xs.length = n) (h : At w b o xs) : Rd w (some ⟨b, o, none⟩) n c (ints xs) := by
  refine ⟨by rw [ints_len, hl, Nat.mul_one], fun u hu => ?_, .inr ⟨_, rfl, fun j u hj => ?_⟩⟩
  · simp only [ints, List.mem_map] at hu
    obtain ⟨x, _, rfl⟩ := hu
    rfl
  · have hjl : j < xs.length := by
      rcases Nat.lt_or_ge j xs.length with h1 | h1
      · exact h1
      · rw [List.getElem?_eq_none (by rw [ints_len]; exact h1)] at hj; cases hj
    rw [ints_get xs j hjl] at hj
    cases hj
    rw [Addr.add_lit]
    exact h j hjl
theorem Rd.of_sl {w : World} {a : Option Addr} {n c : Nat} {xs : List Int} (h : Sl w a n c xs) (hs : a.isSome = true) : Rd w a n c (ints xs) := by
  rcases Nat.eq_zero_or_pos n with h0 | h0
  · have hx : xs = [] := List.length_eq_zero_iff.1 (by rw [h.1, h0])
    obtain ⟨x, rfl⟩ := Option.isSome_iff_exists.1 hs
    subst hx h0
    exact ⟨rfl, fun u hu => (by cases hu), .inr ⟨x, rfl, fun j u hj => by simp [ints] at hj⟩⟩
  · obtain ⟨b, o, rfl, hat⟩ := h.2.2.2 h0
    exact Rd.of_at h.1 hat
end CB
end Go.Proofs.Ytgkcpmhgmhioiaa
