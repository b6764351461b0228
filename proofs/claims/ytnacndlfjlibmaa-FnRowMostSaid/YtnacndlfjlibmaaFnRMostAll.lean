/- FnRMostAll: one text out of CatI, RowD, RowDS, RowO, RowM, RowC, RowP, DrawRow, DrawRowE, LFnRowMost. -/
import Derived.Test.YtnacndlfjlibmaaLawKit
import Derived.Test.YtnacndlfjlibmaaMake
import Derived.Deep.LoopGhost
import Derived.Deep.DeepCutAuto
import Derived.Lib.AppendZeros
import Derived.Laws.AppendOwnNone
import Derived.Test.YtnacndlfjlibmaaRowA
import Derived.Test.YtnacndlfjlibmaaPost
import Derived.Deep.RegionHeld3
import Derived.Test.YtnacndlfjlibmaaRawKit
import Derived.Test.YtnacndlfjlibmaaBaseK
import Derived.Test.YtnacndlfjlibmaaFn1
import Derived.Test.YtnacndlfjlibmaaRowB
import Derived.Test.YtnacndlfjlibmaaDraw0
import Derived.Deep.CutBlock
/- CatI -/
/- slices.Concat of however many slices of numbers ([]int). -/
namespace Go.Proofs.Ytnacndlfjlibmaa
set_option maxRecDepth 100000
open Go.RowKit
namespace CI

/-- A slice of cells that can be read, or nil. -/
def Rd (w : World) (a : Option Addr) (n c : Nat) (l : List Value) : Prop :=
  l.length = n * 1 ∧ (∀ u ∈ l, u.oneCell' = true) ∧ ((a = none ∧ n = 0 ∧ c = 0) ∨ ∃ x : Addr, a = some x ∧ ∀ j u, l[j]? = some u → w.cell? (x.add j) = some u)

theorem Rd.below {w w' : World} {a : Option Addr} {n c : Nat} {l : List Value} (h : Rd w a n c l) (hb : Below w.heap.size w w') : Rd w' a n c l := by
  refine ⟨h.1, h.2.1, ?_⟩
  rcases h.2.2 with h1 | ⟨x, h1, h2⟩
  · exact .inl h1
  · refine .inr ⟨x, h1, fun j u hj => ?_⟩
    have h3 := h2 j u hj
    have h4 := World.block_lt_of_cell? w _ h3
    rw [hb.cell h4]
    exact h3

theorem own_shape {w : World} {B e n size : Nat} {v : Value} {xs : List Value} (h : w.ownsRow B e size v n xs) : ∃ a c, v = .slice a n c := by
  rcases h.2 with ⟨h1, h2⟩ | ⟨g, cap, cur, h0, _⟩
  · exact ⟨none, 0, by rw [h1, h2]⟩
  · exact ⟨_, cap, h0⟩


def CatPost (w : World) (n : Nat) (l : List Value) (e : Ending) (w' : World) : Prop :=
  ∃ a c', e = .returned (.slice a n c') ∧ w'.ownsRow w.heap.size 3 1 (.slice a n c') n l ∧ Below w.heap.size w w'


/-- At an append whose run is known. -/
theorem wpList_append_run {P : Program} {w : World} {ops : Array Oper} {rest : List Oper} {o : Oper} {a : Act} {Q : Exit → Act → World → Prop} (hgd : o.guard = none) (s x : Operand) (t tn : TypeId)
    (ho : o.op = .call { callee := .builtin .append, args := #[s, x], argTypes := #[t, tn] }) (v u r : Value) (w' : World) (hs : a.eval s = v) (hx : a.eval x = u)
    (hrun : (Builtin.append_ #[t, tn] o.type #[v, u]).run P w = .ok r w') (h : wpList P ops Q rest (a.put o.dst r) w') : wpList P ops Q (o :: rest) a w := by
  refine wpList_plain hgd fun K hK => ?_
  unfold Oper.wp
  simp [execOp, ho, resolve, invoke, builtin, hs, hx, hrun, Result.andThen]
  exact hK _ _ h

/-- slices.Grow of nothing: a row without terms. -/
theorem grow_any (n : Nat) (w : World) (hn : n ≤ 1000000) :
    Calls Try.prog 97 #[.slice none 0 0, .int .i64 n] w fun e w' => ∃ a c, e = .returned (.slice a 0 c) ∧
      w'.ownsRow w.heap.size 3 1 (.slice a 0 c) 0 [] ∧ Below w.heap.size w w' := by
  by_cases h0 : n = 0
  · subst h0
    go_enter Try.func97, Try.ntmps97
    go_wp2_with fail
    go_ret
    exact ⟨none, 0, rfl, ⟨rfl, .inl ⟨rfl, rfl⟩⟩, Below.refl _ _⟩
  · obtain ⟨i0, hi, hz0, hz1, hz2⟩ := info_parts info_int
    have hpos : 0 < n := by omega
    have hp2 : (0 : Int) < n := by omega
    have hr := fun ty => Lib.run_append_nil_zeros (P := Try.prog) w 23 3 ty 3 i0 _ .i64 .i64 Try.underlying23 Try.underlying3 hi hz0 n hpos (by omega) (by omega) (by rw [hz2]; omega)
    obtain ⟨G, hG⟩ : ∃ G, G = grownCap w n 0 3 := ⟨_, rfl⟩
    have hG1 : n ≤ G := by rw [hG]; exact grownCap_ge _ _ _ _
    have hG2 : G ≤ maxLen := by rw [hG]; exact grownCap_le_maxLen _ _ _ _ (by unfold maxLen; omega)
    rw [← hG] at hr
    have hG3 : (0 : Int) ≤ (G : Int) := by omega
    have hw : Below w.heap.size w (w.drew.alloc (.cells (Builtin.zeroCells (Value.int .i64 0).cells n ++ Builtin.zeroCells (Value.int .i64 0).cells (G - n)) 3)) :=
      (Joins.below_draws w.heap.size w 1).alloc (Nat.le_refl _) _
    have ho : (w.drew.alloc (.cells (Builtin.zeroCells (Value.int .i64 0).cells n ++ Builtin.zeroCells (Value.int .i64 0).cells (G - n)) 3)).ownsRow w.heap.size 3 1 (.slice (some ⟨w.heap.size, 0, none⟩) 0 G) 0 [] := by
      refine ⟨rfl, .inr ⟨w.heap.size, G, _, rfl, Nat.le_refl _, heap_alloc_new w.drew _, Nat.zero_le _, hG2, ?_, by simp⟩⟩
      rw [Array.size_append, size_zeroCells, size_zeroCells]
      have h2 : (Value.int .i64 0).cells.size = 1 := rfl
      rw [h2]
      omega
    have Hw := Lib.hid hw
    have Ho := Lib.hid ho
    have Hr := Lib.hid hr
    clear hw ho hG h0 hr
    go_enter Try.func97, Try.ntmps97
    go_wp2_with (first
      | (at_builtin; refine wpList_append_run rfl (.tmp 20) (.tmp 21) 23 3 rfl _ _ _ _ rfl rfl (Hr.out _) ?_))
    go_ret
    exact ⟨_, G, rfl, Ho.out, Hw.out⟩

def psum (ns : Nat → Nat) : Nat → Nat
  | 0 => 0
  | i + 1 => psum ns i + ns i
def pcat (ls : Nat → List Value) : Nat → List Value
  | 0 => []
  | i + 1 => pcat ls i ++ ls i
theorem psum_le {ns : Nat → Nat} {K : Nat} (hb : ∀ i, i < K → ns i ≤ 10000) : ∀ i, i ≤ K → psum ns i ≤ i * 10000 := by
  intro i
  induction i with
  | zero => intro _; exact Nat.le_refl _
  | succ i ih =>
    intro h
    have h1 := ih (by omega)
    have h2 := hb i (by omega)
    rw [psum]
    omega

def CatLoop (w : World) (K : Nat) (ns : Nat → Nat) (ls : Nat → List Value) (gk : Nat) (v6 v27 : Value) (wr : World) : Prop :=
  ∃ (i : Nat) (a : Option Addr) (c : Nat), v27 = .int .i64 i ∧ gk + i = K ∧ v6 = .slice a (psum ns i) c ∧ wr.ownsRow w.heap.size 3 1 v6 (psum ns i) (pcat ls i) ∧ Below w.heap.size w wr

set_option maxHeartbeats 4000000 in
theorem concat_any (K g c : Nat) (ads : Nat → Option Addr) (ns cs : Nat → Nat) (ls : Nat → List Value) (w : World) (hK0 : 0 < K) (hK : K ≤ 10)
    (hc : ∀ i, i < K → w.cell? ⟨g, i, none⟩ = some (.slice (ads i) (ns i) (cs i))) (hr : ∀ i, i < K → Rd w (ads i) (ns i) (cs i) (ls i)) (hb : ∀ i, i < K → ns i ≤ 10000) :
    Calls Try.prog 72 #[.slice (some ⟨g, 0, none⟩) K c] w (CatPost w (psum ns K) (pcat ls K)) := by
  obtain ⟨i0, hi, hz0, hz1, hz2⟩ := info_parts info_int
  have HC := Lib.hid hc
  have HR := Lib.hid hr
  have HB := Lib.hid hb
  have hgl : g < w.heap.size := World.block_lt_of_cell? w _ (hc 0 hK0)
  have HP := Lib.hid (psum_le hb)
  have kg := Lib.hid (grow_any (psum ns K) w (by have := psum_le hb K (Nat.le_refl _); omega))
  clear hc hr hb
  go_enter Try.func72, Try.ntmps72
  go_wp2_with fail
  go_loopg [3, 11] K (fun gk v3 v11 wr => w = wr ∧ ∃ i : Nat, v11 = .int .i64 i ∧ gk + i = K ∧ v3 = .int .i64 (psum ns i : Nat))
  case atStart => exact ⟨rfl, 0, rfl, rfl, rfl⟩
  case round =>
    obtain ⟨rfl, i, rfl, hgk, rfl⟩ := hrel
    have Hgk := Lib.hid hgk
    have hik : i ≤ K := by omega
    have hsb : psum ns i ≤ 100000 := by have := HP.out i hik; omega
    clear hgk
    by_cases hlt : i < K
    · have xC := HC.out i hlt
      have hn := HB.out i hlt
      obtain ⟨s, hs⟩ : ∃ s, s = psum ns i := ⟨_, rfl⟩
      obtain ⟨n, hn'⟩ : ∃ n, n = ns i := ⟨_, rfl⟩
      rw [← hs] at hsb ⊢
      rw [← hn'] at hn xC
      have Hs := Lib.hid hs
      have Hn := Lib.hid hn'
      clear hs hn'
      go_wp2_with fail
      go_roundg (gk - 1)
      case measure => have := Hgk.out; omega
      case rel => exact ⟨rfl, i + 1, by go_num, by have := Hgk.out; omega, congrArg (Value.int .i64) (by show _ = ((psum ns i + ns i : Nat) : Int); rw [← Hs.out, ← Hn.out]; omega)⟩
    · obtain rfl : K = i := by omega
      go_wp2_with fail
      refine (kg.out).mono ?_
      rintro ee w1 ⟨a, cc, rfl, ho1, hb1⟩
      have hfin : CatLoop w K ns ls K (.slice a 0 cc) (.int .i64 (0 : Nat)) w1 := ⟨0, a, cc, rfl, rfl, rfl, ho1, hb1⟩
      have Hfin := Lib.hid hfin
      clear ho1 hb1 hfin
      go_wp2_with fail
      go_loopg [6, 27] K (fun gk v6 v27 wr => CatLoop w K ns ls gk v6 v27 wr)
      case atStart => exact Hfin.out
      case round =>
        obtain ⟨i, a, cc, rfl, hgk, rfl, ho, hb⟩ := hrel
        have Hgk2 := Lib.hid hgk
        have hik : i ≤ K := by omega
        have hsb : psum ns i ≤ 100000 := by have := HP.out i hik; omega
        have Hb := Lib.hid hb
        have Ho := Lib.hid ho
        have hws : w.heap.size ≤ wr.heap.size := hb.size
        clear hgk hb ho
        by_cases hlt : i < K
        · have xC := (Hb.out.cell (p := ⟨g, i, none⟩) hgl).trans (HC.out i hlt)
          have hn := HB.out i hlt
          have hR := (HR.out i hlt).below Hb.out
          obtain ⟨s, hs⟩ : ∃ s, s = psum ns i := ⟨_, rfl⟩
          obtain ⟨q, hq⟩ : ∃ q, q = pcat ls i := ⟨_, rfl⟩
          obtain ⟨n, hn'⟩ : ∃ n, n = ns i := ⟨_, rfl⟩
          obtain ⟨l, hl'⟩ : ∃ l, l = ls i := ⟨_, rfl⟩
          obtain ⟨k, hk'⟩ : ∃ k, k = cs i := ⟨_, rfl⟩
          obtain ⟨ad, had⟩ : ∃ ad, ad = ads i := ⟨_, rfl⟩
          have hnext : psum ns (i + 1) = s + n ∧ pcat ls (i + 1) = q ++ l := ⟨by rw [hs, hn']; rfl, by rw [hq, hl']; rfl⟩
          rw [← hs, ← hq] at Ho
          rw [← hs] at hsb ⊢
          rw [← hn'] at hn
          rw [← hn', ← hl', ← hk', ← had] at hR
          rw [← hn', ← hk', ← had] at xC
          have Hnext := Lib.hid hnext
          have Hl := Lib.hid (show l.length = n * 1 from hR.1)
          have H1 := Lib.hid hR.2.1
          clear hs hq hn' hl' hk' had hnext
          rcases hR.2.2 with ⟨ha, hn0, hcc⟩ | ⟨x, ha, hrd⟩
          · have hl0 : l = [] := List.length_eq_zero_iff.1 (by rw [Hl.out, hn0])
            have hfin : CatLoop w K ns ls (gk - 1) (.slice a s cc) (.int .i64 ((i + 1 : Nat) : Int)) wr := by
              have e1 : psum ns (i + 1) = s := by rw [Hnext.out.1, hn0]; rfl
              have e2 : pcat ls (i + 1) = q := by rw [Hnext.out.2, hl0, List.append_nil]
              exact ⟨i + 1, a, cc, rfl, by have := Hgk2.out; omega, by rw [e1], by rw [e1, e2]; exact Ho.out, Hb.out⟩
            have Hfin := Lib.hid hfin
            obtain rfl := ha
            obtain rfl := hcc
            subst hn0
            clear hfin hl0 hR
            go_wp2_with (first
              | (at_builtin; refine wpList_append_own_none rfl (.tmp 31) (.tmp 32) 23 rfl w.heap.size 3 i0 1 Try.underlying23 hi _ s q rfl Ho.out rfl ?_))
            go_roundg (gk - 1)
            case measure => have := Hgk2.out; omega
            case rel => exact Hfin.out
          · have Hrd := Lib.hid hrd
            obtain rfl := ha
            clear hR hrd
            go_wp2_with (first
              | (at_builtin; refine wpList_append_own _ rfl (.tmp 31) (.tmp 32) 23 rfl w.heap.size 3 i0 (.int .i64 0) 1 8 Try.underlying23 hi hz0 hz1 hz2 rfl (by decide) _ s q rfl Ho.out x n _ l rfl Hl.out Hrd.out H1.out (by unfold maxLen; omega) (by omega) (by omega) ?_; intro v1 w2 ho2 hg2 _))
            obtain ⟨a2, cc2, rfl⟩ := own_shape ho2
            have hfin : CatLoop w K ns ls (gk - 1) (.slice a2 (s + n) cc2) (.int .i64 ((i + 1 : Nat) : Int)) w2 := by
              refine ⟨i + 1, a2, cc2, rfl, by have := Hgk2.out; omega, by rw [Hnext.out.1], by rw [Hnext.out.1, Hnext.out.2]; exact ho2, Hb.out.grown hg2 hws (fun r e => (Ho.out.lt r e).1)⟩
            have Hfin := Lib.hid hfin
            clear hfin ho2 hg2
            go_wp2_with fail
            go_roundg (gk - 1)
            case measure => have := Hgk2.out; omega
            case rel => exact Hfin.out
        · obtain rfl : K = i := by omega
          go_wp2_with fail
          go_ret
          exact ⟨a, cc, rfl, Ho.out, Hb.out⟩


theorem concat3_any (g c : Nat) (a1 a2 a3 : Option Addr) (n1 c1 n2 c2 n3 c3 : Nat) (l1 l2 l3 : List Value) (w : World)
    (h1 : w.cell? ⟨g, 0, none⟩ = some (.slice a1 n1 c1)) (h2 : w.cell? ⟨g, 1, none⟩ = some (.slice a2 n2 c2)) (h3 : w.cell? ⟨g, 2, none⟩ = some (.slice a3 n3 c3)) (r1 : Rd w a1 n1 c1 l1) (r2 : Rd w a2 n2 c2 l2) (r3 : Rd w a3 n3 c3 l3) (b1 : n1 ≤ 10000) (b2 : n2 ≤ 10000) (b3 : n3 ≤ 10000) :
    Calls Try.prog 72 #[.slice (some ⟨g, 0, none⟩) 3 c] w (CatPost w (n1 + n2 + n3) (l1 ++ l2 ++ l3)) := by
  have hcase : ∀ {j : Nat}, j < 3 → j = 0 ∨ j = 1 ∨ j = 2 := fun h => by omega
  have h := concat_any 3 g c (fun j => match j with | 0 => a1 | 1 => a2 | _ => a3) (fun j => match j with | 0 => n1 | 1 => n2 | _ => n3) (fun j => match j with | 0 => c1 | 1 => c2 | _ => c3) (fun j => match j with | 0 => l1 | 1 => l2 | _ => l3) w (by decide) (by decide)
    (fun j hj => by
      rcases hcase hj with rfl | rfl | rfl
      · exact h1
      · exact h2
      · exact h3) (fun j hj => by
      rcases hcase hj with rfl | rfl | rfl
      · exact r1
      · exact r2
      · exact r3) (fun j hj => by
      rcases hcase hj with rfl | rfl | rfl
      · exact b1
      · exact b2
      · exact b3)
  have e1 : psum (fun j => match j with | 0 => n1 | 1 => n2 | _ => n3) 3 = n1 + n2 + n3 := by simp [psum]
  have e2 : pcat (fun j => match j with | 0 => l1 | 1 => l2 | _ => l3) 3 = l1 ++ l2 ++ l3 := by simp [pcat]
  rw [e1, e2] at h
  exact h

theorem concat2_any (g c : Nat) (a1 a2 : Option Addr) (n1 c1 n2 c2 : Nat) (l1 l2 : List Value) (w : World)
    (h1 : w.cell? ⟨g, 0, none⟩ = some (.slice a1 n1 c1)) (h2 : w.cell? ⟨g, 1, none⟩ = some (.slice a2 n2 c2)) (r1 : Rd w a1 n1 c1 l1) (r2 : Rd w a2 n2 c2 l2) (b1 : n1 ≤ 10000) (b2 : n2 ≤ 10000) :
    Calls Try.prog 72 #[.slice (some ⟨g, 0, none⟩) 2 c] w (CatPost w (n1 + n2) (l1 ++ l2)) := by
  have hcase : ∀ {j : Nat}, j < 2 → j = 0 ∨ j = 1 := fun h => by omega
  have h := concat_any 2 g c (fun j => match j with | 0 => a1 | _ => a2) (fun j => match j with | 0 => n1 | _ => n2) (fun j => match j with | 0 => c1 | _ => c2) (fun j => match j with | 0 => l1 | _ => l2) w (by decide) (by decide)
    (fun j hj => by
      rcases hcase hj with rfl | rfl
      · exact h1
      · exact h2) (fun j hj => by
      rcases hcase hj with rfl | rfl
      · exact r1
      · exact r2) (fun j hj => by
      rcases hcase hj with rfl | rfl
      · exact b1
      · exact b2)
  have e1 : psum (fun j => match j with | 0 => n1 | _ => n2) 2 = n1 + n2 := by simp [psum]
  have e2 : pcat (fun j => match j with | 0 => l1 | _ => l2) 2 = l1 ++ l2 := by simp [pcat]
  rw [e1, e2] at h
  exact h

/-- A slice of numbers that can be read. -/
theorem Rd.of_at {w : World} {b o n c : Nat} {xs : List Int} (hl : xs.length = n) (h : At w b o xs) : Rd w (some ⟨b, o, none⟩) n c (ints xs) := by
  refine ⟨by rw [ints_len, hl, Nat.mul_one], fun u hu => ?_, .inr ⟨_, rfl, fun j u hj => ?_⟩⟩
  · simp only [ints, List.mem_map] at hu
    obtain ⟨x, _, rfl⟩ := hu
    rfl
  · have hjl : j < xs.length := by
      rcases Nat.lt_or_ge j xs.length with h1 | h1
      · exact h1
      · rw [List.getElem?_eq_none (by rw [ints_len]; exact h1)] at hj; cases hj
    rw [ints_get xs j hjl] at hj
    cases hj
    rw [Addr.add_lit]
    exact h j hjl
theorem Rd.of_sl {w : World} {a : Option Addr} {n c : Nat} {xs : List Int} (h : Sl w a n c xs) (hs : a.isSome = true) : Rd w a n c (ints xs) := by
  rcases Nat.eq_zero_or_pos n with h0 | h0
  · have hx : xs = [] := List.length_eq_zero_iff.1 (by rw [h.1, h0])
    obtain ⟨x, rfl⟩ := Option.isSome_iff_exists.1 hs
    subst hx h0
    exact ⟨rfl, fun u hu => (by cases hu), .inr ⟨x, rfl, fun j u hj => by simp [ints] at hj⟩⟩
  · obtain ⟨b, o, rfl, hat⟩ := h.2.2.2 h0
    exact Rd.of_at h.1 hat
end CI
end Go.Proofs.Ytnacndlfjlibmaa

/- RowD -/
/- Lists of numbers: what is dropped, by the program. -/
namespace Go.Proofs.Ytnacndlfjlibmaa
set_option maxRecDepth 100000
open Go.RowKit

def dropPl (xs : List Int) (V : Int) : Bool := decide ((0 ≤ V ∧ V < xs.length) ∧ xs.getD V.toNat 0 ≠ 0)
def dropFit (xs : List Int) (V : Int) (ys : List Int) : Bool := decide ((ys.length : Int) = xs.length - 1 - V) && upTo 9999 ys
def dropOk (xs : List Int) (V : Int) (ys : List Int) : Bool := (rowB xs && dropPl xs V) && dropFit xs V ys
def dropRow (xs : List Int) (V : Int) (ys : List Int) : List Int := if dropOk xs V ys = true then xs.take V.toNat ++ (xs.getD V.toNat 0 - 1) :: ys else []
theorem dropOk_1 {xs ys : List Int} {V : Int} (h : rowB xs = false) : dropOk xs V ys = false := by rw [dropOk, h]; rfl
theorem dropOk_2 {xs ys : List Int} {V : Int} (h : dropPl xs V = false) : dropOk xs V ys = false := by rw [dropOk, h, Bool.and_false, Bool.false_and]
theorem dropOk_3 {xs ys : List Int} {V : Int} (h : dropFit xs V ys = false) : dropOk xs V ys = false := by rw [dropOk, h, Bool.and_false]
theorem dropOk_4 {xs ys : List Int} {V : Int} (h1 : rowB xs = true) (h2 : dropPl xs V = true) (h3 : dropFit xs V ys = true) : dropOk xs V ys = true := by rw [dropOk, h1, h2, h3]; rfl
theorem dropOk_in {xs ys : List Int} {V : Int} (h : dropOk xs V ys = true) : rowB xs = true ∧ dropPl xs V = true ∧ dropFit xs V ys = true := by
  rw [dropOk, Bool.and_eq_true, Bool.and_eq_true] at h
  exact ⟨h.1.1, h.1.2, h.2⟩
theorem dropRow_no {xs ys : List Int} {V : Int} (h : dropOk xs V ys = false) : dropRow xs V ys = [] := by rw [dropRow, if_neg (by rw [h]; simp)]
theorem dropRow_yes {xs ys : List Int} {V : Int} (h : dropOk xs V ys = true) : dropRow xs V ys = xs.take V.toNat ++ (xs.getD V.toNat 0 - 1) :: ys := by rw [dropRow, if_pos h]
theorem dropPl_true {xs : List Int} {V : Int} : dropPl xs V = true ↔ (0 ≤ V ∧ V < xs.length) ∧ xs.getD V.toNat 0 ≠ 0 := by rw [dropPl, decide_eq_true_eq]
theorem dropPl_false {xs : List Int} {V : Int} (h : ¬ ((0 ≤ V ∧ V < xs.length) ∧ xs.getD V.toNat 0 ≠ 0)) : dropPl xs V = false := by rw [dropPl, decide_eq_false h]
theorem dropFit_true {xs ys : List Int} {V : Int} : dropFit xs V ys = true ↔ (ys.length : Int) = xs.length - 1 - V ∧ upTo 9999 ys = true := by rw [dropFit, Bool.and_eq_true, decide_eq_true_eq]
theorem dropFit_len {xs ys : List Int} {V : Int} (h : (ys.length : Int) ≠ xs.length - 1 - V) : dropFit xs V ys = false := by rw [dropFit, decide_eq_false h]; rfl
theorem dropFit_up {xs ys : List Int} {V : Int} (h : upTo 9999 ys = false) : dropFit xs V ys = false := by rw [dropFit, h, Bool.and_false]
theorem dropRow_len (xs : List Int) (V : Int) (ys : List Int) : (dropRow xs V ys).length ≤ 1000 := by
  cases h : dropOk xs V ys with
  | false => rw [dropRow_no h]; decide
  | true =>
    obtain ⟨h1, h2, h3⟩ := dropOk_in h
    have h4 := (rowB_true.1 h1).1
    have h5 := (dropPl_true.1 h2).1
    have h6 := (dropFit_true.1 h3).1
    rw [dropRow_yes h]
    simp
    omega

theorem drop_cells (w : World) (x : Int) (V1 V2 V3 : Value) (t1 t2 : TypeId) :
    (((w.alloc (.cells #[.int .i64 x] t1)).alloc (.cells #[V1, V2, V3] t2)).drew).cell? ⟨w.heap.size + 1, 0, none⟩ = some V1 ∧
    (((w.alloc (.cells #[.int .i64 x] t1)).alloc (.cells #[V1, V2, V3] t2)).drew).cell? ⟨w.heap.size + 1, 1, none⟩ = some V2 ∧
    (((w.alloc (.cells #[.int .i64 x] t1)).alloc (.cells #[V1, V2, V3] t2)).drew).cell? ⟨w.heap.size + 1, 2, none⟩ = some V3 ∧
    CI.Rd (((w.alloc (.cells #[.int .i64 x] t1)).alloc (.cells #[V1, V2, V3] t2)).drew) (some ⟨w.heap.size, 0, none⟩) 1 1 [.int .i64 x] := by
  have h3 : ∀ i, (((w.alloc (.cells #[.int .i64 x] t1)).alloc (.cells #[V1, V2, V3] t2)).drew).cell? ⟨w.heap.size + 1, i, none⟩ = #[V1, V2, V3][i]? := fun i => by
    show ((w.alloc (.cells #[.int .i64 x] t1)).alloc (.cells #[V1, V2, V3] t2)).cell? _ = _
    exact Joins.cell_alloc_mark_at _ _ _ _ _ _ (by simp)
  have h2 : ∀ i, (((w.alloc (.cells #[.int .i64 x] t1)).alloc (.cells #[V1, V2, V3] t2)).drew).cell? ⟨w.heap.size, i, none⟩ = #[.int .i64 x][i]? := fun i => by
    show ((w.alloc (.cells #[.int .i64 x] t1)).alloc (.cells #[V1, V2, V3] t2)).cell? _ = _
    rw [World.cell?_alloc_past _ _ _ (by simp)]
    exact Joins.cell_alloc_mark_at _ _ _ _ _ _ rfl
  refine ⟨h3 0, h3 1, h3 2, CI.Rd.of_at (xs := [x]) rfl (fun j hj => ?_)⟩
  simp at hj
  subst hj
  exact h2 0

set_option maxHeartbeats 4000000 in
theorem impl_RowDrop (a1 a2 : Option Addr) (n1 c1 n2 c2 : Nat) (xs : List Int) (V : Int) (ys : List Int) (w : World) (hx : Sl w a1 n1 c1 xs) (hy : Sl w a2 n2 c2 ys) (hv0 : -9223372036854775808 ≤ V) (hv1 : V ≤ 9223372036854775807) (hs : a2.isSome = true := by rfl) :
    Calls Try.prog 31 #[.slice a1 n1 c1, .int .i64 V, .slice a2 n2 c2] w (OrdOkPost w (dropRow xs V ys) (dropOk xs V ys)) := by
  have k1 := Lib.hid (iRowValid_any a1 n1 c1 xs w hx)
  have hn9 : n2 ≤ 9223372036854775807 := by have h2 := hy.2.1; have h3 := hy.2.2.1; unfold maxLen at h3; omega
  obtain ⟨r, hr⟩ : ∃ r, r = dropRow xs V ys := ⟨_, rfl⟩
  obtain ⟨o, ho⟩ : ∃ o, o = dropOk xs V ys := ⟨_, rfl⟩
  have hno : dropOk xs V ys = false → r = [] ∧ o = false := fun h => ⟨by rw [hr, dropRow_no h], by rw [ho, h]⟩
  have hyes : dropOk xs V ys = true → r = xs.take V.toNat ++ (xs.getD V.toNat 0 - 1) :: ys ∧ o = true := fun h => ⟨by rw [hr, dropRow_yes h], by rw [ho, h]⟩
  rw [← hr, ← ho]
  clear hr ho
  rcases row_tf xs with h1 | h1
  · rw [h1] at k1
    have hl := (rowB_true.1 h1).1
    rw [hx.1] at hl
    by_cases hp : 0 ≤ V ∧ V < n1
    · obtain ⟨v, rfl⟩ := Int.eq_ofNat_of_zero_le hp.1
      have hvn : v < n1 := by omega
      obtain ⟨b, off, rfl, hat⟩ := hx.2.2.2 (by omega)
      have hvx : v < xs.length := by rw [hx.1]; exact hvn
      have y0 := hat v hvx
      have hx9 := upTo_get (rowB_true.1 h1).2 hvx
      obtain ⟨d, hd⟩ := Int.eq_ofNat_of_zero_le hx9.1
      have hd9 : d ≤ 9999 := by have := hx9.2; omega
      rw [hd] at y0
      by_cases hd0 : d = 0
      · subst hd0
        obtain ⟨rfl, rfl⟩ := hno (dropOk_2 (dropPl_false (fun h => h.2 (by rw [Int.toNat_natCast]; exact hd))))
        have hz : (((0 : Nat) : Int) == 0) = true := rfl
        clear hx hy hno hyes h1 hl hp hat hvx hx9 hd
        go_enter Try.func31, Try.ntmps31
        go_wp2_with fail
        refine (k1.out).mono ?_
        rintro ee wx ⟨rfl, rfl⟩
        go_wp2_with fail
        go_ret2
        exact OrdOkPost.nil (nil_own _ _) (Below.refl _ _)
      · have hpl : dropPl xs (v : Int) = true := dropPl_true.2 ⟨by rw [hx.1]; exact hp, by rw [Int.toNat_natCast, hd]; omega⟩
        have hdz : ((d : Int) == 0) = false := by simp; omega
        obtain ⟨m1, hm1⟩ : ∃ m1, n1 = m1 + 1 := ⟨n1 - 1, by omega⟩
        obtain ⟨t, ht⟩ : ∃ t, m1 = t + v := ⟨m1 - v, by omega⟩
        have hj1 : IntKind.i64.wrap ((n1 : Int) - 1) = (m1 : Int) := by rw [IntWalk.i64_in _ (by omega)]; omega
        have hj2 : (n1 : Int) - 1 = (m1 : Int) := by omega
        have hk1 : IntKind.i64.wrap ((m1 : Int) - (v : Int)) = (t : Int) := by rw [IntWalk.i64_in _ (by omega)]; omega
        have hk2 : (m1 : Int) - (v : Int) = (t : Int) := by omega
        by_cases hlen : n2 = t
        · have k2 := Lib.hid (fun wx h => allUpTo_any a2 n2 c2 ys 9999 wx (by omega) h)
          rcases up_tf 9999 ys with h2 | h2
          · obtain ⟨hr, ho⟩ := hyes (dropOk_4 h1 hpl (dropFit_true.2 ⟨by rw [hx.1, hy.1]; omega, h2⟩))
            rw [Int.toNat_natCast, hd] at hr
            obtain ⟨d1, hd1⟩ : ∃ d1, d = d1 + 1 := ⟨d - 1, by omega⟩
            have hq1 : IntKind.i64.wrap ((d : Int) - 1) = (d1 : Int) := by rw [IntWalk.i64_in _ (by omega)]; omega
            have hq3 : IntKind.i64.wrap (d1 : Int) = (d1 : Int) := IntWalk.i64_in _ (by omega)
            have hq2 : (d : Int) - 1 = (d1 : Int) := by omega
            rw [hq2] at hr
            have HR := Lib.hid hr
            subst ho
            rw [h2] at k2
            have hne : ((n2 : Int) != (t : Int)) = false := by simp; omega
            have hvc : v ≤ c1 := by have := hx.2.1; omega
            have hvc1 : (v : Int) ≤ (c1 : Int) := by omega
            have hv00 : (0 : Int) ≤ (v : Int) := by omega
            have Hat := Lib.hid hat
            have HY := Lib.hid hy
            have HX1 := Lib.hid hx.1
            have Hd1 := Lib.hid hd1
            have hbl : b < w.heap.size := hat.lt (by intro h9; rw [h9] at hvx; simp at hvx)
            have HL := Lib.hid (show v + 1 + n2 = r.length by rw [hr]; simp [hy.1]; omega)
            have hv5 : v ≤ 5 := by omega
            have hn25 : n2 ≤ 5 := by omega
            clear hx hy hno hyes h1 hp hat hvx hx9 hd hr h2 hpl hlen hm1 ht hd1
            go_enter Try.func31, Try.ntmps31
            go_wp2_with fail
            refine (k1.out).mono ?_
            rintro ee wx ⟨rfl, rfl⟩
            go_wp2_with fail
            refine (k2.out _ HY.out).mono ?_
            rintro ee wx ⟨rfl, rfl⟩
            have HBW := Lib.hid ((((Below.refl w.heap.size w).alloc (Nat.le_refl _) (.cells #[.int .i64 (d1 : Int)] 3)).alloc (by simp) (.cells #[.slice (some ⟨b, off, none⟩) v c1, .slice (some ⟨w.heap.size, 0, none⟩) 1 1, .slice a2 n2 c2] 23)).drew)
            have HC := Lib.hid (drop_cells w (d1 : Int) (.slice (some ⟨b, off, none⟩) v c1) (.slice (some ⟨w.heap.size, 0, none⟩) 1 1) (.slice a2 n2 c2) 3 23)
            have HR1 := Lib.hid (CI.Rd.below (CI.Rd.of_at (c := c1) (xs := xs.take v) (n := v) (by rw [List.length_take, HX1.out]; omega) (Hat.out.take v)) HBW.out)
            have HR3 := Lib.hid (CI.Rd.below (CI.Rd.of_sl HY.out hs) HBW.out)
            go_wp2_with fail
            go_region_held3 (fun w' => w'.cell? ⟨b, off + v, none⟩ = some (.int .i64 (d : Int))) (first | go_keep | exact kS0)
              ((first
                | (go_at_call 72; (refine (CI.concat3_any (w.heap.size + 1) 3 (some ⟨b, off, none⟩) (some ⟨w.heap.size, 0, none⟩) a2 v c1 1 1 n2 c2 (ints (xs.take v)) [.int .i64 (d1 : Int)] (ints ys) _ HC.out.1 HC.out.2.1 HC.out.2.2.1 HR1.out HC.out.2.2.2 HR3.out (by omega) (by omega) (by omega)).mono ?_); rintro ee w5 ⟨a5, c5, rfl, ho5, hb5⟩; have kS0 := (hb5.cell (p := ⟨b, off + v, none⟩) (by simp; omega)).trans ((HBW.out.cell (p := ⟨b, off + v, none⟩) hbl).trans y0))))
            have hfin : OrdOkPost w r true (.returned (.tuple #[.slice a5 (v + 1 + n2) c5, .bool true])) w5 := by
              rw [HL.out]
              refine ⟨a5, c5, rfl, ?_, HBW.out.trans (hb5.mono HBW.out.size)⟩
              have h9 := Joins.ownsRow_le ho5 HBW.out.size
              rw [HL.out] at h9
              have e9 : ints r = ints (xs.take v) ++ [.int .i64 (d1 : Int)] ++ ints ys := by rw [HR.out]; simp [ints]
              rw [e9]
              exact h9
            have Hfin := Lib.hid hfin
            clear hfin ho5 hb5 kS0
            go_wp2_with fail
            go_ret2
            exact Hfin.out
          · obtain ⟨rfl, rfl⟩ := hno (dropOk_3 (dropFit_up h2))
            rw [h2] at k2
            have hne : ((n2 : Int) != (t : Int)) = false := by simp; omega
            have HY := Lib.hid hy
            clear hx hy hno hyes h1 hp hat hvx hx9 hd h2 hpl hlen hm1 ht
            go_enter Try.func31, Try.ntmps31
            go_wp2_with fail
            refine (k1.out).mono ?_
            rintro ee wx ⟨rfl, rfl⟩
            go_wp2_with fail
            refine (k2.out _ HY.out).mono ?_
            rintro ee wx ⟨rfl, rfl⟩
            go_wp2_with fail
            go_ret2
            exact OrdOkPost.nil (nil_own _ _) (Below.refl _ _)
        · obtain ⟨rfl, rfl⟩ := hno (dropOk_3 (dropFit_len (by rw [hx.1, hy.1]; omega)))
          have hne : ((n2 : Int) != (t : Int)) = true := by simp; omega
          clear hx hy hno hyes h1 hp hat hvx hx9 hd hpl hlen hm1 ht
          go_enter Try.func31, Try.ntmps31
          go_wp2_with fail
          refine (k1.out).mono ?_
          rintro ee wx ⟨rfl, rfl⟩
          go_wp2_with fail
          go_ret2
          exact OrdOkPost.nil (nil_own _ _) (Below.refl _ _)
    · obtain ⟨rfl, rfl⟩ := hno (dropOk_2 (dropPl_false (fun h => hp (by rw [hx.1] at h; exact h.1))))
      by_cases hp0 : V < 0
      · clear hx hy hno hyes h1 hp
        go_enter Try.func31, Try.ntmps31
        go_wp2_with fail
        refine (k1.out).mono ?_
        rintro ee wx ⟨rfl, rfl⟩
        go_wp2_with fail
        go_ret2
        exact OrdOkPost.nil (nil_own _ _) (Below.refl _ _)
      · have hp1 : (n1 : Int) ≤ V := by omega
        clear hx hy hno hyes h1 hp
        go_enter Try.func31, Try.ntmps31
        go_wp2_with fail
        refine (k1.out).mono ?_
        rintro ee wx ⟨rfl, rfl⟩
        go_wp2_with fail
        go_ret2
        exact OrdOkPost.nil (nil_own _ _) (Below.refl _ _)
  · rw [h1] at k1
    obtain ⟨rfl, rfl⟩ := hno (dropOk_1 h1)
    clear hx hy hno hyes h1
    go_enter Try.func31, Try.ntmps31
    go_wp2_with fail
    refine (k1.out).mono ?_
    rintro ee wx ⟨rfl, rfl⟩
    go_wp2_with fail
    go_ret2
    exact OrdOkPost.nil (nil_own _ _) (Below.refl _ _)

end Go.Proofs.Ytnacndlfjlibmaa

/- RowDS -/
/- Lists of numbers: what is dropped, by the model. -/
namespace Go.Proofs.Ytnacndlfjlibmaa
set_option maxRecDepth 100000
open Go.RowKit

theorem At.take_cells {W : World} {b off v : Nat} {xs : List Int} (h : At W b off xs) : ∀ j u, (ints (xs.take v))[j]? = some u → W.cell? ((⟨b, off, none⟩ : Addr).add j) = some u := by
  intro j u hj
  have hjl : j < (xs.take v).length := by
    rcases Nat.lt_or_ge j (xs.take v).length with h1 | h1
    · exact h1
    · rw [List.getElem?_eq_none (by rw [ints_len]; exact h1)] at hj; cases hj
  rw [ints_get _ j hjl] at hj
  cases hj
  rw [Addr.add_lit]
  exact h.take v j hjl

namespace DS
theorem gn {wz W w' : World} {row : Option Nat} (h : wz.grownBy W none) (k : W.grownBy w' row) (hr : ∀ r, row = some r → wz.heap.size ≤ r) : wz.grownBy w' none := by
  refine ⟨k.os.trans h.os, k.tape.trans h.tape, k.output.trans h.output, Nat.le_trans h.size k.size, fun i hi hne => ?_⟩
  rw [k.block i (Nat.lt_of_lt_of_le hi h.size) (fun e => by have := hr i e.symm; omega)]
  exact h.block i hi hne
theorem lit_past (w : World) (o : Obj) (e : TypeId) : ((w.alloc o).alloc (.cells #[] e)).drew.ownsRow w.heap.size e 1 (.slice (some ⟨w.heap.size + 1, 0, none⟩) 0 0) 0 [] := by
  have h := World.ownsRow_lit (base := w.heap.size) (e := e) (size := 1) (w.alloc o) #[] 0 (by simp) (by simp [maxLen]) rfl
  rw [World.size_alloc] at h
  exact h.drew
theorem v_kept2 {w w' : World} {o : Obj} {V : Value} {ty : TypeId} (hg : ((w.alloc o).drew.alloc (.cells #[V] ty)).grownBy w' (some w.heap.size)) :
    ∀ j u, [V][j]? = some u → w'.cell? ((⟨w.heap.size + 1, 0, none⟩ : Addr).add j) = some u := by
  intro j u hj
  match j, hj with
  | 0, hj =>
    simp at hj; subst hj
    refine hg.cell (a := ⟨w.heap.size + 1, 0, none⟩) ?_ (by simp)
    have h1 : (w.alloc o).drew.heap.size = w.heap.size + 1 := World.size_alloc w o
    have := cell_one_at (w.alloc o).drew V ty (w.heap.size + 1) h1.symm 0 V rfl
    exact this
  | (j + 1), hj => simp at hj
theorem v_kept3 {w w' : World} {o : Obj} {V : Value} {ty : TypeId} (hg : ((w.alloc (.cells #[V] ty)).alloc o).drew.grownBy w' (some (w.heap.size + 1))) :
    ∀ j u, [V][j]? = some u → w'.cell? ((⟨w.heap.size, 0, none⟩ : Addr).add j) = some u := by
  intro j u hj
  match j, hj with
  | 0, hj =>
    simp at hj; subst hj
    refine hg.cell (a := ⟨w.heap.size, 0, none⟩) ?_ (by simp)
    show ((w.alloc (.cells #[V] ty)).alloc o).cell? _ = _
    rw [World.cell?_alloc_past _ _ _ (by simp)]
    exact cell_one_at w V ty w.heap.size rfl 0 V rfl
  | (j + 1), hj => simp at hj
theorem below_of {w w' : World} (h : w.grownBy w' none) : Below w.heap.size w w' := (Below.refl w.heap.size w).grown h (Nat.le_refl _) (fun k hk => by cases hk)
end DS

theorem rowB_mid {xs ys : List Int} {v : Nat} {d1 : Nat} (h : rowB xs = true) (hv : v < xs.length) (hd : d1 ≤ 9999) (hl : v + 1 + ys.length = xs.length) : rowB (xs.take v ++ (d1 : Int) :: ys) = upTo 9999 ys := by
  have h1 := rowB_true.1 h
  rw [rowB_in (by simp; omega)]
  rcases up_tf 9999 ys with h2 | h2
  · rw [h2, upTo_true]
    intro x hx
    rcases List.mem_append.1 hx with hx | hx
    · exact upTo_true.1 h1.2 x (List.mem_of_mem_take hx)
    · rcases List.mem_cons.1 hx with rfl | hx
      · omega
      · exact upTo_true.1 h2 x hx
  · rw [h2, upTo_false]
    intro h3
    exact upTo_false.1 h2 (fun x hx => h3 x (by simp [hx]))

set_option maxHeartbeats 8000000 in
theorem spec_RowDrop (a1 a2 : Option Addr) (n1 c1 n2 c2 : Nat) (xs : List Int) (V : Int) (ys : List Int) (w : World) (hx : Sl w a1 n1 c1 xs) (hy : Sl w a2 n2 c2 ys) (hv0 : -9223372036854775808 ≤ V) (hv1 : V ≤ 9223372036854775807) (hs : a2.isSome = true := by rfl) :
    Calls Try.prog 32 #[.slice a1 n1 c1, .int .i64 V, .slice a2 n2 c2] w (OrdOkPost w (dropRow xs V ys) (dropOk xs V ys)) := by
  have k1 := Lib.hid (sRowValid_any a1 n1 c1 xs w hx)
  have hn9 : n2 ≤ 9223372036854775807 := by have h2 := hy.2.1; have h3 := hy.2.2.1; unfold maxLen at h3; omega
  obtain ⟨r, hr⟩ : ∃ r, r = dropRow xs V ys := ⟨_, rfl⟩
  obtain ⟨o, ho⟩ : ∃ o, o = dropOk xs V ys := ⟨_, rfl⟩
  have hno : dropOk xs V ys = false → r = [] ∧ o = false := fun h => ⟨by rw [hr, dropRow_no h], by rw [ho, h]⟩
  have hyes : dropOk xs V ys = true → r = xs.take V.toNat ++ (xs.getD V.toNat 0 - 1) :: ys ∧ o = true := fun h => ⟨by rw [hr, dropRow_yes h], by rw [ho, h]⟩
  rw [← hr, ← ho]
  clear hr ho
  rcases row_tf xs with h1 | h1
  · rw [h1] at k1
    have hl := (rowB_true.1 h1).1
    rw [hx.1] at hl
    obtain ⟨m1, hm1⟩ : ∃ m1, n1 = m1 + 1 := ⟨n1 - 1, by omega⟩
    have hj1 : IntKind.i64.wrap ((n1 : Int) - 1) = (m1 : Int) := by rw [IntWalk.i64_in _ (by omega)]; omega
    have hj2 : (n1 : Int) - 1 = (m1 : Int) := by omega
    by_cases hp : 0 ≤ V ∧ V < n1
    · obtain ⟨v, rfl⟩ := Int.eq_ofNat_of_zero_le hp.1
      have ki := Lib.hid (l1In_yes (v : Int) 0 (m1 : Int) w (by omega) (by omega))
      have hvn : v < n1 := by omega
      obtain ⟨b, off, rfl, hat⟩ := hx.2.2.2 (by omega)
      have hvx : v < xs.length := by rw [hx.1]; exact hvn
      have y0 := hat v hvx
      have hx9 := upTo_get (rowB_true.1 h1).2 hvx
      obtain ⟨d, hd⟩ := Int.eq_ofNat_of_zero_le hx9.1
      have hd9 : d ≤ 9999 := by have := hx9.2; omega
      rw [hd] at y0
      by_cases hd0 : d = 0
      · subst hd0
        obtain ⟨rfl, rfl⟩ := hno (dropOk_2 (dropPl_false (fun h => h.2 (by rw [Int.toNat_natCast]; exact hd))))
        have hz : (((0 : Nat) : Int) == 0) = true := rfl
        clear hx hy hno hyes h1 hp hat hvx hx9 hd hm1
        go_enter Try.func32, Try.ntmps32
        go_wp2_with fail
        refine (k1.out).mono ?_
        rintro ee wx ⟨rfl, rfl⟩
        go_wp2_with fail
        refine (ki.out).mono ?_
        rintro ee wx ⟨rfl, rfl⟩
        go_wp2_with fail
        go_ret2
        exact lit_post (Below.refl _ _)
      · have hpl : dropPl xs (v : Int) = true := dropPl_true.2 ⟨by rw [hx.1]; exact hp, by rw [Int.toNat_natCast, hd]; omega⟩
        have hdz : ((d : Int) == 0) = false := by simp; omega
        obtain ⟨t, ht⟩ : ∃ t, m1 = t + v := ⟨m1 - v, by omega⟩
        have hk1 : IntKind.i64.wrap ((m1 : Int) - (v : Int)) = (t : Int) := by rw [IntWalk.i64_in _ (by omega)]; omega
        have hk2 : (m1 : Int) - (v : Int) = (t : Int) := by omega
        by_cases hlen : n2 = t
        · obtain ⟨d1, hd1⟩ : ∃ d1, d = d1 + 1 := ⟨d - 1, by omega⟩
          have hq1 : IntKind.i64.wrap ((d : Int) - 1) = (d1 : Int) := by rw [IntWalk.i64_in _ (by omega)]; omega
          have hq3 : IntKind.i64.wrap (d1 : Int) = (d1 : Int) := IntWalk.i64_in _ (by omega)
          have hq2 : (d : Int) - 1 = (d1 : Int) := by omega
          have hrB := rowB_mid (ys := ys) (d1 := d1) h1 hvx (by omega) (by rw [hx.1, hy.1]; omega)
          have hne : ((n2 : Int) != (t : Int)) = false := by simp; omega
          have hvc : v ≤ c1 := by have := hx.2.1; omega
          have hvc1 : (v : Int) ≤ (c1 : Int) := by omega
          have hv00 : (0 : Int) ≤ (v : Int) := by omega
          have hbl : b < w.heap.size := hat.lt (by intro h9; rw [h9] at hvx; simp at hvx)
          have hxn : xs ≠ [] := by intro h9; rw [h9] at hvx; simp at hvx
          have hv5 : v ≤ 5 := by omega
          have hn25 : n2 ≤ 5 := by omega
          obtain ⟨i0, hi, hz0, hz1, hz2⟩ := info_parts info_int
          obtain ⟨x2, rfl⟩ := Option.isSome_iff_exists.1 hs
          have HE1 := Lib.hid (show (ints (xs.take v)).length = v * 1 by rw [ints_len, List.length_take, hx.1]; omega)
          have HEn := Lib.hid (show ∀ j u, (ints (xs.take v))[j]? = some u → (w.alloc (.cells #[] 3)).drew.cell? ((⟨b, off, none⟩ : Addr).add j) = some u from At.take_cells (hat.alloc hxn _))
          have HEn2 := Lib.hid (fun (o : Obj) => show ∀ j u, (ints (xs.take v))[j]? = some u → ((w.alloc (.cells #[] 3)).drew.alloc o).cell? ((⟨b, off, none⟩ : Addr).add j) = some u from At.take_cells (At.alloc (w := (w.alloc (.cells #[] 3)).drew) (hat.alloc hxn _) hxn _))
          have HEn3 := Lib.hid (fun (o : Obj) => show ∀ j u, (ints (xs.take v))[j]? = some u → ((w.alloc o).drew.alloc (.cells #[] 3)).cell? ((⟨b, off, none⟩ : Addr).add j) = some u from At.take_cells (At.alloc (w := (w.alloc o).drew) (hat.alloc hxn _) hxn _))
          have HEo := Lib.hid (ints_one (xs.take v))
          have Hhr := Lib.hid (show upTo 9999 ys = true → r = xs.take v ++ (d1 : Int) :: ys ∧ o = true from fun h => by
            have h9 := hyes (dropOk_4 h1 hpl (dropFit_true.2 ⟨by rw [hx.1, hy.1]; omega, h⟩))
            rw [Int.toNat_natCast, hd, hq2] at h9
            exact h9)
          have Hhn := Lib.hid (show upTo 9999 ys = false → r = [] ∧ o = false from fun h => hno (dropOk_3 (dropFit_up h)))
          have HRB := Lib.hid hrB
          have HLY := Lib.hid hy.1
          have HRL := Lib.hid (show (xs.take v ++ (d1 : Int) :: ys).length = v + 1 + n2 by simp [hy.1]; have := hx.1; omega)
          have HYR := Lib.hid (CI.Rd.of_sl hy rfl)
          clear hx hy hno hyes h1 hp hat hvx hx9 hd hpl hlen hm1 ht hd1 hrB
          go_enter Try.func32, Try.ntmps32
          go_wp2_with fail
          refine (k1.out).mono ?_
          rintro ee wx ⟨rfl, rfl⟩
          go_wp2_with fail
          refine (ki.out).mono ?_
          rintro ee wx ⟨rfl, rfl⟩
          go_wp2_with fail
          go_region_held3 (fun w' => w'.cell? ⟨b, off + v, none⟩ = some (.int .i64 (d : Int))) (first | go_keep | exact kS0)
            ((first
            | (refine step_append_own (by rfl) (.tmp 38) (.tmp 41) 23 (by rfl) w.heap.size 3 i0 (.int .i64 0) 1 8 Try.underlying23 hi hz0 hz1 hz2 rfl (by decide) _ 0 [] (by rfl) ((World.ownsRow_lit (base := w.heap.size) w #[] 0 (Nat.le_refl _) (by simp [maxLen]) rfl).drew) ⟨b, off, none⟩ v c1 (ints (xs.take v)) (by rfl) HE1.out HEn.out HEo.out (by unfold maxLen; omega) (by omega) (by simp) ?_; intro v4 wa hoa hga hna; have GA := Lib.hid (DS.gn (ga w _ none) hga (fun r e => by cases e; exact Nat.le_refl _)); have Hoa := Lib.hid (own0 hoa); have hsa : w.heap.size ≤ wa.heap.size := GA.out.size; have kS0 := GA.out.cell (a := ⟨b, off + v, none⟩) y0 (by simp))
            | (refine step_append_own (by rfl) (.tmp 38) (.tmp 41) 23 (by rfl) w.heap.size 3 i0 (.int .i64 0) 1 8 Try.underlying23 hi hz0 hz1 hz2 rfl (by decide) _ 0 [] (by rfl) ((World.ownsRow_lit (base := w.heap.size) w #[] 0 (Nat.le_refl _) (by simp [maxLen]) rfl).drew.alloc _) ⟨b, off, none⟩ v c1 (ints (xs.take v)) (by rfl) HE1.out (HEn2.out _) HEo.out (by unfold maxLen; omega) (by omega) (by simp <;> omega) ?_; intro v4 wa hoa hga hna; have GA := Lib.hid (DS.gn (DS.gn (ga w _ none) (World.grownBy_alloc _ _ none) (fun r e => by cases e)) hga (fun r e => by cases e; exact Nat.le_refl _)); have HV := Lib.hid (DS.v_kept2 hga); have Hoa := Lib.hid (own0 hoa); have hsa : w.heap.size ≤ wa.heap.size := GA.out.size; have kS0 := GA.out.cell (a := ⟨b, off + v, none⟩) y0 (by simp))
            | (refine step_append_own (by rfl) (.tmp 38) (.tmp 41) 23 (by rfl) w.heap.size 3 i0 (.int .i64 0) 1 8 Try.underlying23 hi hz0 hz1 hz2 rfl (by decide) _ 0 [] (by rfl) (DS.lit_past w (.cells #[.int .i64 (d1 : Int)] 3) 3) ⟨b, off, none⟩ v c1 (ints (xs.take v)) (by rfl) HE1.out (HEn3.out _) HEo.out (by unfold maxLen; omega) (by omega) (by simp <;> omega) ?_; intro v4 wa hoa hga hna; have GA := Lib.hid (DS.gn (DS.gn (World.grownBy_alloc w _ none) (ga (w.alloc _) _ none) (fun r e => by cases e)) hga (fun r e => by cases e; simp)); have HV := Lib.hid (DS.v_kept3 hga); have Hoa := Lib.hid (own0 hoa); have hsa : w.heap.size ≤ wa.heap.size := GA.out.size; have kS0 := GA.out.cell (a := ⟨b, off + v, none⟩) y0 (by simp))
            | (refine step_append_own (by rfl) (.tmp 42) (.tmp 48) 23 (by rfl) w.heap.size 3 i0 (.int .i64 0) 1 8 Try.underlying23 hi hz0 hz1 hz2 rfl (by decide) _ v (ints (xs.take v)) (by rfl) (Hoa.out.alloc _) ⟨wa.heap.size, 0, none⟩ 1 1 [.int .i64 (d1 : Int)] (by rfl) (by rfl) (cell_one_new _ _ _) (ints_oneCell _ [_]) (by unfold maxLen; omega) (by omega) (by simp; omega) ?_; intro v5 wb hob hgb hnb; have GB := Lib.hid (DS.gn (DS.gn GA.out (World.grownBy_alloc wa _ none) (fun r e => by cases e)) hgb (fun r e => (Hoa.out.lt r e).1)); have Hob := Lib.hid hob; have hsb : w.heap.size ≤ wb.heap.size := GB.out.size; have kS0 := GB.out.cell (a := ⟨b, off + v, none⟩) y0 (by simp))
            | (refine step_append_own (by rfl) (.tmp 42) (.tmp 48) 23 (by rfl) w.heap.size 3 i0 (.int .i64 0) 1 8 Try.underlying23 hi hz0 hz1 hz2 rfl (by decide) _ v (ints (xs.take v)) (by rfl) Hoa.out ⟨_, 0, none⟩ 1 1 [.int .i64 (d1 : Int)] (by rfl) (by rfl) HV.out (ints_oneCell _ [_]) (by unfold maxLen; omega) (by omega) (by omega) ?_; intro v5 wb hob hgb hnb; have GB := Lib.hid (DS.gn GA.out hgb (fun r e => (Hoa.out.lt r e).1)); have Hob := Lib.hid hob; have hsb : w.heap.size ≤ wb.heap.size := GB.out.size; have kS0 := GB.out.cell (a := ⟨b, off + v, none⟩) y0 (by simp))
            | fail))
          all_goals
            obtain ⟨g5, c5, rfl⟩ := Joins.ownsRow_form Hob.out (by omega)
            have hbb := DS.below_of GB.out
            have HYW := Lib.hid (CI.Rd.below HYR.out hbb)
            have HYl := Lib.hid HYW.out.1
            have HY1 := Lib.hid HYW.out.2.1
            have HYc := Lib.hid (show ∀ j u, (ints ys)[j]? = some u → wb.cell? (x2.add j) = some u from by
              rcases HYW.out.2.2 with ⟨h9, _⟩ | ⟨x3, h9, h8⟩
              · cases h9
              · cases h9; exact h8)
            have Hbb := Lib.hid hbb
            clear hbb hoa hga hna hob hgb hnb kS0
            go_wp2_with (first
              | (at_builtin; refine wpList_append_own _ rfl (.tmp 50) (.tmp 51) 23 rfl w.heap.size 3 i0 (.int .i64 0) 1 8 Try.underlying23 hi hz0 hz1 hz2 rfl (by decide) _ (v + 1) (ints (xs.take v) ++ [.int .i64 (d1 : Int)]) (by rfl) Hob.out x2 n2 _ (ints ys) (by rfl) HYl.out HYc.out HY1.out (by unfold maxLen; omega) (by omega) (by omega) ?_; intro v6 wc hoc hgc _))
            obtain ⟨g6, c6, rfl⟩ := Joins.ownsRow_form hoc (by omega)
            have hbc := Hbb.out.grown hgc hsb (fun r e => (Hob.out.lt r e).1)
            have hoc' : wc.ownsRow w.heap.size 3 1 (.slice (some ⟨g6, 0, none⟩) (v + 1 + n2) c6) (v + 1 + n2) (ints (xs.take v ++ (d1 : Int) :: ys)) := by
              have e9 : ints (xs.take v ++ (d1 : Int) :: ys) = ints (xs.take v) ++ [.int .i64 (d1 : Int)] ++ ints ys := by simp [ints]
              rw [e9]; exact hoc
            have kv := Lib.hid (sRowValid_any _ _ _ _ wc (Sl.of_own hoc'))
            rw [HRB.out] at kv
            have Hbc := Lib.hid hbc
            have Hoc := Lib.hid hoc'
            clear hoc hgc hbc hoc'
            rcases up_tf 9999 ys with h2 | h2
            · obtain ⟨hr9, ho9⟩ := Hhr.out h2
              have hfin : OrdOkPost w r o (.returned (.tuple #[.slice (some ⟨g6, 0, none⟩) (v + 1 + n2) c6, .bool true])) wc := by
                rw [hr9, ho9, ← HRL.out]
                refine ⟨some ⟨g6, 0, none⟩, c6, rfl, ?_, Hbc.out⟩
                have h9 := Hoc.out
                rw [← HRL.out] at h9
                exact h9
              have Hfin := Lib.hid hfin
              rw [h2] at kv
              clear hfin h2 hr9 ho9
              go_wp2_with fail
              refine (kv.out).mono ?_
              rintro ee wx ⟨rfl, rfl⟩
              go_wp2_with fail
              go_ret2
              exact Hfin.out
            · obtain ⟨rfl, rfl⟩ := Hhn.out h2
              rw [h2] at kv
              clear h2
              go_wp2_with fail
              refine (kv.out).mono ?_
              rintro ee wx ⟨rfl, rfl⟩
              go_wp2_with fail
              go_ret2
              exact lit_post Hbc.out
        · obtain ⟨rfl, rfl⟩ := hno (dropOk_3 (dropFit_len (by rw [hx.1, hy.1]; omega)))
          have hne : ((n2 : Int) != (t : Int)) = true := by simp; omega
          clear hx hy hno hyes h1 hp hat hvx hx9 hd hpl hlen hm1 ht
          go_enter Try.func32, Try.ntmps32
          go_wp2_with fail
          refine (k1.out).mono ?_
          rintro ee wx ⟨rfl, rfl⟩
          go_wp2_with fail
          refine (ki.out).mono ?_
          rintro ee wx ⟨rfl, rfl⟩
          go_wp2_with fail
          go_ret2
          exact lit_post (Below.refl _ _)
    · obtain ⟨rfl, rfl⟩ := hno (dropOk_2 (dropPl_false (fun h => hp (by rw [hx.1] at h; exact h.1))))
      have ki := Lib.hid (l1In_no V 0 (m1 : Int) w (by omega))
      clear hx hy hno hyes h1 hp hm1
      go_enter Try.func32, Try.ntmps32
      go_wp2_with fail
      refine (k1.out).mono ?_
      rintro ee wx ⟨rfl, rfl⟩
      go_wp2_with fail
      refine (ki.out).mono ?_
      rintro ee wx ⟨rfl, rfl⟩
      go_wp2_with fail
      go_ret2
      exact lit_post (Below.refl _ _)
  · rw [h1] at k1
    obtain ⟨rfl, rfl⟩ := hno (dropOk_1 h1)
    clear hx hy hno hyes h1
    go_enter Try.func32, Try.ntmps32
    go_wp2_with fail
    refine (k1.out).mono ?_
    rintro ee wx ⟨rfl, rfl⟩
    go_wp2_with fail
    go_ret2
    exact lit_post (Below.refl _ _)

end Go.Proofs.Ytnacndlfjlibmaa

/- RowO -/
/- Lists of numbers: their ordinals, by the program. -/
namespace Go.Proofs.Ytnacndlfjlibmaa
set_option maxRecDepth 100000
open Go.RowKit

namespace T
theorem ofDigs_ok {xs : List Int} {t : Nat} (h : xs.length ≤ t) : ok (some (numT t)) (ofDigs numT xs) := by
  induction xs with
  | nil => exact ok_z _
  | cons x xs ih =>
    simp only [List.length_cons] at h
    by_cases hx : x = 0
    · subst hx; rw [ofDigs_skip]; exact ih (by omega)
    · rw [ofDigs_next hx]; exact ok_c.2 (numT_lt (by omega))
theorem ofDigs_nf {xs : List Int} (hl : xs.length ≤ 9999) (h : ∀ x ∈ xs, 0 ≤ x ∧ x ≤ 9999) : (ofDigs numT xs).Nf := by
  induction xs with
  | nil => trivial
  | cons x xs ih =>
    simp only [List.length_cons] at hl
    have ih' := ih (by omega) (fun y hy => h y (List.mem_cons_of_mem _ hy))
    have hx9 := h x List.mem_cons_self
    by_cases hx : x = 0
    · subst hx; rw [ofDigs_skip]; exact ih'
    · rw [ofDigs_next hx]
      exact ⟨by omega, by omega, numT_nf (by omega), ih', ofDigs_ok (Nat.le_refl _)⟩
theorem ofDigs_cnt {f : Nat → T} (xs : List Int) : (ofDigs f xs).cnt ≤ xs.length := by
  induction xs with
  | nil => exact Nat.le_refl _
  | cons x xs ih =>
    simp only [List.length_cons]
    by_cases hx : x = 0
    · subst hx; rw [ofDigs_skip]; omega
    · rw [ofDigs_next hx, cnt]; omega
theorem ofDigs_blen (xs : List Int) : (ofDigs numT xs).body.length ≤ 4 * xs.length := by
  induction xs with
  | nil => exact Nat.le_refl _
  | cons x xs ih =>
    simp only [List.length_cons]
    by_cases hx : x = 0
    · subst hx; rw [ofDigs_skip]; omega
    · have h1 := numT_len xs.length
      have h2 := enc_len (numT xs.length)
      rw [ofDigs_next hx, body]
      simp
      omega
theorem ofDigs_len (xs : List Int) : (ofDigs numT xs).enc.length ≤ 1 + 4 * xs.length := by
  have h1 := ofDigs_blen xs
  have h2 := enc_len (ofDigs numT xs)
  omega
/-- The ordinal of a list. -/
noncomputable def rowOrd (xs : List Int) : List Int := if rowB xs = true then (ofDigs numT xs).enc else []
theorem rowOrd_in {xs : List Int} (h : rowB xs = true) : rowOrd xs = (ofDigs numT xs).enc := by rw [rowOrd, if_pos h]
theorem rowOrd_out {xs : List Int} (h : rowB xs = false) : rowOrd xs = [] := by rw [rowOrd, if_neg (by rw [h]; simp)]
theorem rowOrd_len (xs : List Int) : (rowOrd xs).length ≤ 1000 := by
  rcases row_tf xs with h | h
  · have h1 := ofDigs_len xs
    have h2 := (rowB_true.1 h).1
    rw [rowOrd_in h]
    omega
  · rw [rowOrd_out h]; decide
theorem rowOrd_fit {xs : List Int} (h : rowB xs = true) : fit (ofDigs numT xs) = rowOrd xs := by
  have h1 := rowB_true.1 h
  have h3 := ofDigs_len xs
  rw [rowOrd_in h, fit, if_pos (vld_mk (ofDigs_nf (by omega) (upTo_true.1 h1.2)) (by omega))]
end T

theorem impl_RowOrdN (ao : Option Addr) (n c : Nat) (xs : List Int) (w : World) (h : Sl w ao n c xs) :
    Calls Try.prog 22 #[.slice ao n c] w (IntPostN w (T.rowOrd xs)) := by
  have k1 := Lib.hid (iRowValid_any ao n c xs w h)
  rcases row_tf xs with h1 | h1
  · rw [h1] at k1
    have hl := (rowB_true.1 h1).1
    have hll := T.ofDigs_len xs
    have kd := ofDigits_any _ (enters_of Try.func27 (by kernel_rfl) rfl) #[] T.numT ao n c xs w h (by rw [h.1] at hl; omega) (upTo_true.1 (rowB_true.1 h1).2) (by omega)
      (fun e _ _ _ _ => by have := T.numT_len e; omega)
      (fun e _ wr _ _ he _ => by
        have he9 : e ≤ 9999 := by rw [h.1] at hl; omega
        have h1 := T.numT_row (e := e) he9
        rw [← h1]
        refine (impl_OrdOf e wr (by omega) (by omega)).mono ?_
        rintro ee wx ⟨a, c, rfl, ho, hbx⟩
        exact ⟨a, c, rfl, ho, hbx⟩)
    rw [T.rowOrd_fit h1] at kd
    have Kd := Lib.hid kd
    obtain ⟨r, hr⟩ : ∃ r, r = T.rowOrd xs := ⟨_, rfl⟩
    rw [← hr] at Kd ⊢
    clear h h1 hl hll kd hr
    go_enter Try.func22, Try.ntmps22
    go_wp2_with fail
    refine (k1.out).mono ?_
    rintro ee wx ⟨rfl, rfl⟩
    go_wp2_with fail
    refine (Kd.out).mono ?_
    rintro ee w3 ⟨a, c, rfl, hnn, ho, hb3⟩
    have hfin : IntPostN w r (.returned (.slice a r.length c)) w3 := ⟨a, c, rfl, hnn, ho, hb3⟩
    have Hfin := Lib.hid hfin
    clear ho hb3 hnn hfin
    go_wp2_with fail
    go_ret
    exact Hfin.out
  · rw [h1] at k1
    rw [T.rowOrd_out h1]
    clear h h1
    go_enter Try.func22, Try.ntmps22
    go_wp2_with fail
    refine (k1.out).mono ?_
    rintro ee wx ⟨rfl, rfl⟩
    go_wp2_with fail
    go_ret
    exact IntPostN.nil (Below.refl _ _)

theorem impl_RowOrd (ao : Option Addr) (n c : Nat) (xs : List Int) (w : World) (h : Sl w ao n c xs) :
    Calls Try.prog 22 #[.slice ao n c] w (IntPost w (T.rowOrd xs)) := (impl_RowOrdN ao n c xs w h).mono (fun _ _ h => h.weak)

end Go.Proofs.Ytnacndlfjlibmaa

/- RowM -/
/- Lists of numbers and their ordinals are in the same order. -/
namespace Go.Proofs.Ytnacndlfjlibmaa
set_option maxRecDepth 100000
open Go.RowKit
namespace T

theorem cmp_below {q s r : T} {m : Int} (h : ok (some q) r) : r.cmp (c m q s) = -1 := by
  cases r with
  | z => rfl
  | c n e r' =>
    have h1 := ok_c.1 h
    rw [cmp_c, if_neg (by rw [h1]; decide), h1]
theorem cmp_above {q s r : T} {m : Int} (h : ok (some q) r) : (c m q s).cmp r = 1 := by
  have h1 := cmp_below (m := m) (s := s) h
  have h2 := cmp_swap (c m q s) r
  omega

theorem ofDigs_cmp : ∀ (xs ys : List Int), xs.length = ys.length → (∀ x ∈ xs, 0 ≤ x) → (∀ y ∈ ys, 0 ≤ y) → (ofDigs numT xs).cmp (ofDigs numT ys) = cmpL xs ys := by
  intro xs
  induction xs with
  | nil =>
    intro ys hl _ _
    have : ys = [] := List.length_eq_zero_iff.1 hl.symm
    subst this
    rfl
  | cons x xs ih =>
    intro ys hl hx hy
    cases ys with
    | nil => simp at hl
    | cons y ys =>
      have hl' : xs.length = ys.length := by simpa using hl
      have hx0 := hx x List.mem_cons_self
      have hy0 := hy y List.mem_cons_self
      have ih' := ih ys hl' (fun z hz => hx z (List.mem_cons_of_mem _ hz)) (fun z hz => hy z (List.mem_cons_of_mem _ hz))
      by_cases hx1 : x = 0
      · subst hx1
        rw [ofDigs_skip]
        by_cases hy1 : y = 0
        · subst hy1
          rw [ofDigs_skip, cmpL_eq]
          exact ih'
        · rw [ofDigs_next hy1, cmpL_lt (by omega)]
          exact cmp_below (ofDigs_ok (by omega))
      · rw [ofDigs_next hx1]
        by_cases hy1 : y = 0
        · subst hy1
          rw [ofDigs_skip, cmpL_gt (by omega)]
          exact cmp_above (ofDigs_ok (by omega))
        · rw [ofDigs_next hy1, hl', cmp_c, if_pos (cmp_refl _), ih']
          rcases Int.lt_trichotomy x y with h | h | h
          · rw [if_pos h, cmpL_lt h]
          · subst h; rw [if_neg (by omega), if_neg (by omega), cmpL_eq]
          · rw [if_neg (by omega), if_pos h, cmpL_gt h]

theorem rowOrd_vld {xs : List Int} (h : rowB xs = true) : vldB (rowOrd xs) = true := by
  have h1 := rowB_true.1 h
  have h3 := ofDigs_len xs
  rw [rowOrd_in h]
  exact vld_mk (ofDigs_nf (by omega) (upTo_true.1 h1.2)) (by omega)
theorem rowOrd_cmp {xs ys : List Int} (h1 : rowB xs = true) (h2 : rowB ys = true) (hl : xs.length = ys.length) : cmpRow (rowOrd xs) (rowOrd ys) = cmpL xs ys := by
  rw [cmpRow_val (rowOrd_vld h1) (rowOrd_vld h2), rowOrd_in h1, rowOrd_in h2, of_enc, of_enc]
  exact ofDigs_cmp xs ys hl (fun x hx => (upTo_true.1 (rowB_true.1 h1).2 x hx).1) (fun x hx => (upTo_true.1 (rowB_true.1 h2).2 x hx).1)
theorem rowOrd_pos {xs : List Int} (h : rowB xs = true) : 0 < (rowOrd xs).length := by rw [rowOrd_in h, enc_len]; omega
end T

theorem cmpL_swap : ∀ xs ys : List Int, cmpL ys xs = - cmpL xs ys
  | [], [] => rfl
  | [], _ :: _ => rfl
  | _ :: _, [] => rfl
  | x :: xs, y :: ys => by
    rcases Int.lt_trichotomy x y with h | h | h
    · rw [cmpL_lt h, cmpL_gt h]; rfl
    · subst h; rw [cmpL_eq, cmpL_eq, cmpL_swap xs ys]
    · rw [cmpL_lt h, cmpL_gt h]

theorem rowCmp_cases (xs ys : List Int) : rowCmp xs ys = -2 ∨ ((rowB xs = true ∧ rowB ys = true) ∧ xs.length = ys.length ∧ rowCmp xs ys = cmpL xs ys) := by
  by_cases h : (rowB xs = true ∧ rowB ys = true) ∧ xs.length = ys.length
  · exact .inr ⟨h.1, h.2, rowCmp_in h.1.1 h.1.2 h.2⟩
  · exact .inl (by rw [rowCmp, if_neg h])

theorem cmpL_take (v : Nat) (x : Int) (zs ts : List Int) : ∀ xs : List Int, v < xs.length → xs.getD v 0 = x → ts.length = zs.length → xs = xs.take v ++ x :: zs → cmpL (xs.take v ++ (x - 1) :: ts) xs = -1 := by
  induction v with
  | zero =>
    intro xs _ _ _ h
    rw [h]
    simp
    exact cmpL_lt (by omega)
  | succ v ih =>
    intro xs hv hx hl h
    cases xs with
    | nil => simp at hv
    | cons y xs =>
      simp only [List.take_succ_cons, List.cons_append] at h ⊢
      rw [cmpL_eq]
      refine ih xs (by simpa using hv) (by simpa using hx) hl ?_
      exact (List.cons.inj h).2

theorem take_mid {xs : List Int} {v : Nat} (h : v < xs.length) : xs = xs.take v ++ xs.getD v 0 :: xs.drop (v + 1) := by
  rw [getD_at h, ← List.drop_eq_getElem_cons h, List.take_append_drop]

theorem dropRow_less {xs ys : List Int} {V : Int} (h : dropOk xs V ys = true) : rowB (dropRow xs V ys) = true ∧ (dropRow xs V ys).length = xs.length ∧ cmpL (dropRow xs V ys) xs = -1 := by
  obtain ⟨h1, h2, h3⟩ := dropOk_in h
  have h4 := (rowB_true.1 h1)
  have h5 := dropPl_true.1 h2
  have h6 := dropFit_true.1 h3
  obtain ⟨v, rfl⟩ := Int.eq_ofNat_of_zero_le h5.1.1
  have hv : v < xs.length := by omega
  have hx := upTo_get h4.2 hv
  have hl : (dropRow xs (v : Int) ys).length = xs.length := by
    rw [dropRow_yes h, Int.toNat_natCast]
    simp
    omega
  rw [Int.toNat_natCast] at h5
  refine ⟨?_, hl, ?_⟩
  · rw [rowB_in (by rw [hl]; exact h4.1), upTo_true]
    intro z hz
    rw [dropRow_yes h, Int.toNat_natCast] at hz
    rcases List.mem_append.1 hz with hz | hz
    · exact upTo_true.1 h4.2 z (List.mem_of_mem_take hz)
    · rcases List.mem_cons.1 hz with rfl | hz
      · omega
      · exact upTo_true.1 h6.2 z hz
  · rw [dropRow_yes h, Int.toNat_natCast]
    exact cmpL_take v _ (xs.drop (v + 1)) ys xs hv rfl (by rw [List.length_drop]; omega) (take_mid hv)

end Go.Proofs.Ytnacndlfjlibmaa

/- RowC -/
/- Lists of numbers: how often one can drop, by the program and by the model. -/
namespace Go.Proofs.Ytnacndlfjlibmaa
set_option maxRecDepth 100000
open Go.RowKit

/-- Digits read in a base. -/
def hor (b : Int) : Int → List Int → Int
  | a, [] => a
  | a, x :: xs => hor b (a * b + x) xs
def mostI (xs : List Int) (m : Int) : Int := if (rowB xs = true ∧ 0 ≤ m ∧ m ≤ 9) ∧ upTo m xs = true then hor (m + 1) 0 xs else -1
theorem mostI_in {xs : List Int} {m : Int} (h1 : rowB xs = true) (h2 : 0 ≤ m ∧ m ≤ 9) (h3 : upTo m xs = true) : mostI xs m = hor (m + 1) 0 xs := by rw [mostI, if_pos ⟨⟨h1, h2⟩, h3⟩]
theorem mostI_1 {xs : List Int} {m : Int} (h1 : rowB xs = false) : mostI xs m = -1 := by rw [mostI, if_neg (by rw [h1]; simp)]
theorem mostI_2 {xs : List Int} {m : Int} (h1 : ¬ (0 ≤ m ∧ m ≤ 9)) : mostI xs m = -1 := by rw [mostI, if_neg (fun h => h1 h.1.2)]
theorem mostI_3 {xs : List Int} {m : Int} (h1 : upTo m xs = false) : mostI xs m = -1 := by rw [mostI, if_neg (by rw [h1]; simp)]

theorem wrapR (q : Nat) (h : q ≤ 1000000000) : wrap64 (q : Int) = q := by unfold wrap64; omega
theorem next_measure {n i : Nat} (h : i < n) : n - (intOf (.int .i64 ((i : Int) + 1))).toNat < n - (intOf (.int .i64 (i : Int))).toNat := by
  show n - ((i : Int) + 1).toNat < n - (i : Int).toNat
  omega
theorem mulR (x b y : Nat) (h : y = x * b) (hy : y ≤ 1000000000) : wrap64 ((x : Int) * (b : Int)) = (y : Int) := by
  rw [show (x : Int) * (b : Int) = (y : Int) by rw [h]; exact (Int.natCast_mul _ _).symm]; exact wrapR _ hy
theorem addR (x b y : Nat) (h : y = x + b) (hy : y ≤ 1000000000) : wrap64 ((x : Int) + (b : Int)) = (y : Int) := by
  rw [show (x : Int) + (b : Int) = (y : Int) by rw [h]; exact (Int.natCast_add _ _).symm]; exact wrapR _ hy

/-- One digit more. -/
theorem hor_step {b v d i : Nat} {xs ys : List Int} {o : Int} (hb : b ≤ 10) (hd : d + 1 ≤ 10) (hv : v < 10 ^ i) (hi : i < 5) (h : hor b v xs = o) (hx : xs = (d : Int) :: ys) :
    ∃ x y : Nat, x = v * b ∧ y = x + d ∧ x ≤ 1000000 ∧ y ≤ 1000000 ∧ y < 10 ^ (i + 1) ∧ hor b y ys = o := by
  have h1 : v * b ≤ v * 10 := Nat.mul_le_mul_left _ hb
  have h2 : 10 ^ (i + 1) ≤ 10 ^ 5 := Nat.pow_le_pow_right (by decide) (by omega)
  have h3 : 10 ^ (i + 1) = 10 ^ i * 10 := Nat.pow_succ ..
  refine ⟨_, _, rfl, rfl, ?_, ?_, ?_, ?_⟩
  · omega
  · omega
  · omega
  · rw [← h, hx, hor]
    congr 1

set_option maxHeartbeats 1000000 in
theorem readDigs_any (b : Nat) (ao : Option Addr) (n c : Nat) (xs : List Int) (w : World) (hb : b ≤ 10) (hn : n ≤ 5) (hx : upTo 9 xs = true) (h : Sl w ao n c xs) :
    Calls Try.prog 73 #[.slice ao n c, .int .i64 b] w fun e w' => e = .returned (.int .i64 (hor b 0 xs)) ∧ w = w' := by
  obtain ⟨x1, x2, x3, x4⟩ := h
  have X1 := Lib.hid x1
  have X4 := Lib.hid x4
  have HX := Lib.hid hx
  obtain ⟨o, ho⟩ : ∃ o, o = hor b 0 xs := ⟨_, rfl⟩
  rw [← ho]
  have Ho := Lib.hid ho
  clear x1 x4 ho hx
  go_enter Try.func73, Try.ntmps73
  go_wp2_with fail
  go_loopg [5, 10] n (fun gk v5 v10 wr => ∃ (i v : Nat), w = wr ∧ v5 = .int .i64 v ∧ v10 = .int .i64 i ∧ gk + i = n ∧ Hid (hor b v (xs.drop i) = o) ∧ Hid (v < 10 ^ i))
  case atStart => exact ⟨0, 0, rfl, rfl, rfl, rfl, Lib.hid Ho.out.symm, Lib.hid (by decide)⟩
  case round =>
    obtain ⟨i, v, rfl, rfl, rfl, hgk, HV, HB⟩ := hrel
    have Hgk := Lib.hid hgk
    have hik : i ≤ n := by omega
    clear hgk
    by_cases hlt : i < n
    · obtain ⟨bb, off, rfl, hat⟩ := X4.out (by omega)
      have hix : i < xs.length := by rw [X1.out]; exact hlt
      obtain ⟨x, xt, hdx, hdx1⟩ := drop_cons (xs := xs) (a := i) hix
      have y0 := hat.get hdx
      have hxm : x ∈ xs := List.mem_of_mem_drop (by rw [hdx]; exact List.mem_cons_self)
      have hx9 := upTo_true.1 HX.out x hxm
      obtain ⟨d, rfl⟩ := Int.eq_ofNat_of_zero_le hx9.1
      obtain ⟨p, y, hp, hy, hp9, hy9, hy10, hn⟩ := hor_step hb (by omega) HB.out (by omega) HV.out hdx
      have hxw := mulR v b p hp (by omega)
      have hyw := addR p d y hy (by omega)
      have HN := Lib.hid (show hor b y (xs.drop (i + 1)) = o by rw [hdx1]; exact hn)
      have HY := Lib.hid hy10
      have HYW := Lib.hid (show (p : Int) + (d : Int) = (y : Int) by rw [hy]; exact (Int.natCast_add _ _).symm)
      clear hix hdx hdx1 hxm hp hy hy10 hn
      go_wp2_with fail
      go_roundg (gk - 1)
      case measure => have := Hgk.out; clear hxw hyw; omega
      case rel =>
        refine ⟨i + 1, y, rfl, congrArg (Value.int .i64) HYW.out, ?_, by have := Hgk.out; clear hxw hyw; omega, HN, HY⟩
        clear hxw hyw
        go_num
    · obtain rfl : i = n := by omega
      have HF := Lib.hid (show (v : Int) = o by have h1 := HV.out; rw [List.drop_eq_nil_of_le (by rw [X1.out]; exact Nat.le_refl _)] at h1; exact h1)
      go_wp2_with fail
      go_ret
      exact ⟨ret_int HF.out, rfl⟩

theorem impl_RowMost (ao : Option Addr) (n c : Nat) (xs : List Int) (m : Int) (w : World) (h : Sl w ao n c xs) (_hm0 : -9223372036854775808 ≤ m) (_hm1 : m ≤ 9223372036854775807) :
    Calls Try.prog 34 #[.slice ao n c, .int .i64 m] w fun e w' => e = .returned (.int .i64 (mostI xs m)) ∧ Below w.heap.size w w' := by
  have k1 := Lib.hid (iRowValid_any ao n c xs w h)
  rcases row_tf xs with h1 | h1
  · have hl := (rowB_true.1 h1).1
    rw [h.1] at hl
    have k2 := Lib.hid (allUpTo_any ao n c xs m w (by omega) h)
    by_cases hm : 0 ≤ m ∧ m ≤ 9
    · obtain ⟨q, rfl⟩ := Int.eq_ofNat_of_zero_le hm.1
      rw [h1] at k1
      rcases up_tf q xs with h2 | h2
      · have h9 : upTo 9 xs = true := upTo_true.2 (fun x hx => by have := upTo_true.1 h2 x hx; omega)
        have k3 := Lib.hid (readDigs_any (q + 1) ao n c xs w (by omega) (by omega) h9 h)
        rw [h2] at k2
        rw [mostI_in h1 hm h2]
        clear h h1 h2 h9
        go_enter Try.func34, Try.ntmps34
        go_wp2_with fail
        refine (k1.out).mono ?_
        rintro ee wx ⟨rfl, rfl⟩
        go_wp2_with fail
        refine (k2.out).mono ?_
        rintro ee wx ⟨rfl, rfl⟩
        go_wp2_with fail
        refine (k3.out).mono ?_
        rintro ee wx ⟨rfl, rfl⟩
        go_wp2_with fail
        go_ret
        exact ⟨rfl, Below.refl _ _⟩
      · rw [h2] at k2
        rw [mostI_3 h2]
        clear h h1 h2
        go_enter Try.func34, Try.ntmps34
        go_wp2_with fail
        refine (k1.out).mono ?_
        rintro ee wx ⟨rfl, rfl⟩
        go_wp2_with fail
        refine (k2.out).mono ?_
        rintro ee wx ⟨rfl, rfl⟩
        go_wp2_with fail
        go_ret
        exact ⟨rfl, Below.refl _ _⟩
    · rw [h1] at k1
      rw [mostI_2 hm]
      by_cases hm0 : m < 0
      · clear h h1 hm k2
        go_enter Try.func34, Try.ntmps34
        go_wp2_with fail
        refine (k1.out).mono ?_
        rintro ee wx ⟨rfl, rfl⟩
        go_wp2_with fail
        go_ret
        exact ⟨rfl, Below.refl _ _⟩
      · have hm9 : 9 < m := by omega
        clear h h1 hm k2
        go_enter Try.func34, Try.ntmps34
        go_wp2_with fail
        refine (k1.out).mono ?_
        rintro ee wx ⟨rfl, rfl⟩
        go_wp2_with fail
        go_ret
        exact ⟨rfl, Below.refl _ _⟩
  · rw [h1] at k1
    rw [mostI_1 h1]
    clear h h1
    go_enter Try.func34, Try.ntmps34
    go_wp2_with fail
    refine (k1.out).mono ?_
    rintro ee wx ⟨rfl, rfl⟩
    go_wp2_with fail
    go_ret
    exact ⟨rfl, Below.refl _ _⟩

set_option maxHeartbeats 1000000 in
theorem spec_RowMost (ao : Option Addr) (n c : Nat) (xs : List Int) (m : Int) (w : World) (h : Sl w ao n c xs) (_hm0 : -9223372036854775808 ≤ m) (_hm1 : m ≤ 9223372036854775807) :
    Calls Try.prog 35 #[.slice ao n c, .int .i64 m] w fun e w' => e = .returned (.int .i64 (mostI xs m)) ∧ Below w.heap.size w w' := by
  have k1 := Lib.hid (sRowValid_any ao n c xs w h)
  rcases row_tf xs with h1 | h1
  · have hl := (rowB_true.1 h1).1
    rw [h.1] at hl
    rw [h1] at k1
    by_cases hm : 0 ≤ m ∧ m ≤ 9
    · have k2 := Lib.hid (l1In_yes m 0 9 w hm.1 hm.2)
      obtain ⟨q, rfl⟩ := Int.eq_ofNat_of_zero_le hm.1
      obtain ⟨x1, x2, x3, x4⟩ := h
      obtain ⟨bb, off, rfl, hat⟩ := x4 (by omega)
      have X1 := Lib.hid x1
      have Hat := Lib.hid hat
      have H1 := Lib.hid h1
      obtain ⟨o, ho⟩ : ∃ o, o = mostI xs q := ⟨_, rfl⟩
      have HoI := Lib.hid (show upTo q xs = true → o = hor ((q + 1 : Nat) : Int) 0 xs from fun h9 => by rw [ho, mostI_in h1 hm h9]; rfl)
      have HoN := Lib.hid (show upTo q xs = false → o = -1 from fun h9 => by rw [ho, mostI_3 h9])
      have HX := Lib.hid (rowB_true.1 h1).2
      rw [← ho]
      clear h1 x1 x4 hat ho
      have hq9 : q ≤ 9 := by omega
      go_enter Try.func35, Try.ntmps35
      go_wp2_with fail
      refine (k1.out).mono ?_
      rintro ee wx ⟨rfl, rfl⟩
      go_wp2_with fail
      refine (k2.out).mono ?_
      rintro ee wx ⟨rfl, rfl⟩
      go_wp2_with fail
      go_loopw [5, 6] (fun v5 v6 wr => ∃ (i v : Nat), w = wr ∧ v5 = .int .i64 v ∧ v6 = .int .i64 i ∧ i ≤ n ∧ Hid (hor ((q + 1 : Nat) : Int) v (xs.drop i) = hor ((q + 1 : Nat) : Int) 0 xs) ∧ Hid (v < 10 ^ i) ∧ Hid (∀ j, j < i → xs.getD j 0 ≤ q)) (fun _ v6 _ => n - (intOf v6).toNat)
      case atStart => exact ⟨0, 0, rfl, rfl, rfl, Nat.zero_le _, Lib.hid rfl, Lib.hid (by decide), Lib.hid (fun j hj => by omega)⟩
      case round =>
        obtain ⟨i, v, rfl, rfl, rfl, hik, HV, HB, HE⟩ := hrel
        by_cases hlt : i < n
        · have hix : i < xs.length := by rw [X1.out]; exact hlt
          obtain ⟨x, xt, hdx, hdx1⟩ := drop_cons (xs := xs) (a := i) hix
          have y0 := Hat.out.get hdx
          have hxm : x ∈ xs := List.mem_of_mem_drop (by rw [hdx]; exact List.mem_cons_self)
          have hxg : xs.getD i 0 = x := by
            rw [getD_at hix]
            have h5 := List.drop_eq_getElem_cons hix
            rw [hdx] at h5
            exact (List.cons.inj h5).1.symm
          have hx9 := upTo_true.1 HX.out x hxm
          obtain ⟨d, rfl⟩ := Int.eq_ofNat_of_zero_le hx9.1
          by_cases hdq : (q : Int) < (d : Int)
          · have hoF := HoN.out (upTo_at hix (.inr (by rw [hxg]; exact hdq)))
            subst hoF
            clear hix hdx hdx1 hxm hxg hx9
            go_wp2_with fail
            go_ret
            exact ⟨rfl, Below.refl _ _⟩
          · have HE' := Lib.hid (show ∀ j, j < i + 1 → xs.getD j 0 ≤ q from fun j hj => by
              by_cases hji : j = i
              · rw [hji, hxg]; exact Int.not_lt.1 hdq
              · exact HE.out j (by omega))
            obtain ⟨p, y, hp, hy, hp9, hy9, hy10, hn⟩ := hor_step (b := q + 1) (by omega) (by omega) HB.out (by omega) HV.out hdx
            have hxw : wrap64 ((v : Int) * ((q : Int) + 1)) = (p : Int) := mulR v (q + 1) p hp (by omega)
            have hyw := addR p d y hy (by omega)
            have HN := Lib.hid (show hor ((q + 1 : Nat) : Int) y (xs.drop (i + 1)) = hor ((q + 1 : Nat) : Int) 0 xs by rw [hdx1]; exact hn)
            have HY := Lib.hid hy10
            have HYW := Lib.hid (show (p : Int) + (d : Int) = (y : Int) by rw [hy]; exact (Int.natCast_add _ _).symm)
            clear hix hdx hdx1 hxm hp hy hy10 hn hxg hx9
            go_wp2_with fail
            go_roundw
            case measure => exact next_measure hlt
            case rel =>
              refine ⟨i + 1, y, by trivial, congrArg (Value.int .i64) HYW.out, ?_, by clear hxw hyw; omega, HN, HY, HE'⟩
              clear hxw hyw
              go_num
        · obtain rfl : i = n := by omega
          have hup : upTo q xs = true := upTo_all (fun j hj => ⟨(upTo_get HX.out hj).1, HE.out j (by rw [← X1.out]; exact hj)⟩)
          have HF := Lib.hid (show (v : Int) = o by have h1 := HV.out; rw [List.drop_eq_nil_of_le (by rw [X1.out]; exact Nat.le_refl _)] at h1; rw [HoI.out hup]; exact h1)
          clear hup
          go_wp2_with fail
          go_ret
          exact ⟨ret_int HF.out, Below.refl _ _⟩
    · have k2 := Lib.hid (l1In_no m 0 9 w (by omega))
      rw [mostI_2 hm]
      clear h h1 hm
      go_enter Try.func35, Try.ntmps35
      go_wp2_with fail
      refine (k1.out).mono ?_
      rintro ee wx ⟨rfl, rfl⟩
      go_wp2_with fail
      refine (k2.out).mono ?_
      rintro ee wx ⟨rfl, rfl⟩
      go_wp2_with fail
      go_ret
      exact ⟨rfl, Below.refl _ _⟩
  · rw [h1] at k1
    rw [mostI_1 h1]
    clear h h1
    go_enter Try.func35, Try.ntmps35
    go_wp2_with fail
    refine (k1.out).mono ?_
    rintro ee wx ⟨rfl, rfl⟩
    go_wp2_with fail
    go_ret
    exact ⟨rfl, Below.refl _ _⟩

end Go.Proofs.Ytnacndlfjlibmaa

/- RowP -/
/- How often one can drop: what the law of RowMost says of it. -/
namespace Go.Proofs.Ytnacndlfjlibmaa
set_option maxRecDepth 100000
open Go.RowKit

theorem hor_app (b : Int) : ∀ (xs ys : List Int) (a : Int), hor b a (xs ++ ys) = hor b (hor b a xs) ys
  | [], _, _ => rfl
  | x :: xs, ys, a => hor_app b xs ys (a * b + x)
theorem hor_top (b : Int) : ∀ (k : Nat) (a : Int), hor b a (List.replicate k (b - 1)) = (a + 1) * b ^ k - 1
  | 0, a => by simp [hor]
  | k + 1, a => by
    rw [List.replicate_succ, hor, hor_top b k, Int.pow_succ']
    have e : a * b + (b - 1) + 1 = (a + 1) * b := by rw [Int.add_mul]; omega
    rw [e, Int.mul_assoc]
theorem hor_ge (b : Int) (hb : 1 ≤ b) : ∀ (ys : List Int) (a : Int), 0 ≤ a → (∀ y ∈ ys, 0 ≤ y) → a * b ^ ys.length ≤ hor b a ys
  | [], a, _, _ => by simp [hor]
  | y :: ys, a, ha, hy => by
    have h0 := hy y List.mem_cons_self
    have hab : 0 ≤ a * b := Int.mul_nonneg ha (by omega)
    have h1 := hor_ge b hb ys (a * b + y) (by omega) (fun z hz => hy z (List.mem_cons_of_mem _ hz))
    have hp : 0 ≤ b ^ ys.length := Int.pow_nonneg (by omega)
    have h2 : (a * b) * b ^ ys.length ≤ (a * b + y) * b ^ ys.length := Int.mul_le_mul_of_nonneg_right (by omega) hp
    rw [hor, List.length_cons, Int.pow_succ', ← Int.mul_assoc]
    omega
theorem hor_zero (b : Int) : ∀ (ys : List Int) (a : Int), (∀ y ∈ ys, y = 0) → hor b a ys = a * b ^ ys.length
  | [], a, _ => by simp [hor]
  | y :: ys, a, hy => by
    have h0 := hy y List.mem_cons_self
    rw [hor, hor_zero b ys _ (fun z hz => hy z (List.mem_cons_of_mem _ hz)), h0, Int.add_zero, List.length_cons, Int.pow_succ', Int.mul_assoc]
theorem hor_none (b : Int) (hb : 1 ≤ b) : ∀ (ys : List Int) (a : Int), 0 ≤ a → (∀ y ∈ ys, 0 ≤ y) → (hor b a ys = 0 ↔ a = 0 ∧ ∀ y ∈ ys, y = 0)
  | [], a, _, _ => by simp [hor]
  | y :: ys, a, ha, hy => by
    have h0 := hy y List.mem_cons_self
    have hab : 0 ≤ a * b := Int.mul_nonneg ha (by omega)
    rw [hor, hor_none b hb ys _ (by omega) (fun z hz => hy z (List.mem_cons_of_mem _ hz))]
    constructor
    · rintro ⟨h1, h2⟩
      have h3 : a * b = 0 := by omega
      have h4 : a = 0 := by
        rcases Int.mul_eq_zero.1 h3 with h | h
        · exact h
        · omega
      refine ⟨h4, fun z hz => ?_⟩
      rcases List.mem_cons.1 hz with rfl | hz
      · omega
      · exact h2 z hz
    · rintro ⟨h1, h2⟩
      subst h1
      exact ⟨by have := h2 y List.mem_cons_self; omega, fun z hz => h2 z (List.mem_cons_of_mem _ hz)⟩

theorem mostI_vals (xs : List Int) (V : Int) : mostI xs V = -1 ∨ (rowB xs = true ∧ 0 ≤ V ∧ V ≤ 9 ∧ upTo V xs = true ∧ mostI xs V = hor (V + 1) 0 xs ∧ 0 ≤ mostI xs V ∧ mostI xs V ≤ 99999) := by
  by_cases h : (rowB xs = true ∧ 0 ≤ V ∧ V ≤ 9) ∧ upTo V xs = true
  · refine .inr ⟨h.1.1, h.1.2.1, h.1.2.2, h.2, mostI_in h.1.1 h.1.2 h.2, ?_, ?_⟩
    · rw [mostI_in h.1.1 h.1.2 h.2]
      have := hor_ge (V + 1) (by omega) xs 0 (by omega) (fun y hy => (upTo_true.1 h.2 y hy).1)
      simpa using this
    · rw [mostI_in h.1.1 h.1.2 h.2]
      have key : ∀ (ys : List Int) (a : Int) (k : Nat), 0 ≤ a → a + 1 ≤ 10 ^ k → (∀ y ∈ ys, 0 ≤ y ∧ y ≤ 9) → hor (V + 1) a ys + 1 ≤ 10 ^ (k + ys.length) := by
        intro ys
        induction ys with
        | nil => intro a k _ h2 _; simpa [hor] using h2
        | cons y ys ih =>
          intro a k h1 h2 h3
          have hy := h3 y List.mem_cons_self
          have hm : a * (V + 1) ≤ a * 10 := Int.mul_le_mul_of_nonneg_left (by omega) h1
          have hm0 : 0 ≤ a * (V + 1) := Int.mul_nonneg h1 (by omega)
          have h5 := ih (a * (V + 1) + y) (k + 1) (by omega) (by rw [Int.pow_succ]; omega) (fun z hz => h3 z (List.mem_cons_of_mem _ hz))
          rw [hor, List.length_cons, show k + (ys.length + 1) = k + 1 + ys.length by omega]
          exact h5
      have h6 := key xs 0 0 (by omega) (by simp) (fun y hy => by have := upTo_true.1 h.2 y hy; omega)
      have hl := (rowB_true.1 h.1.1).1
      have h7 : (10 : Int) ^ (0 + xs.length) ≤ 10 ^ 5 := by
        have h8 : (10 : Nat) ^ (0 + xs.length) ≤ 10 ^ 5 := Nat.pow_le_pow_right (by decide) (by omega)
        exact_mod_cast h8
      omega
  · exact .inl (by rw [mostI, if_neg h])

/-- After a drop with the greatest numbers behind there is fewer left; by one, if there was nothing behind. -/
theorem most_drop {xs : List Int} {V : Int} {v : Nat} (h1 : rowB xs = true) (hV0 : 0 ≤ V) (hV9 : V ≤ 9) (hu : upTo V xs = true) (hv : v < xs.length) (hx : xs.getD v 0 ≠ 0) :
    dropOk xs v (List.replicate (xs.length - 1 - v) V) = true ∧ 0 ≤ mostI (dropRow xs v (List.replicate (xs.length - 1 - v) V)) V ∧ mostI (dropRow xs v (List.replicate (xs.length - 1 - v) V)) V < mostI xs V ∧
      ((∀ j, v < j → j < xs.length → xs.getD j 0 = 0) → mostI (dropRow xs v (List.replicate (xs.length - 1 - v) V)) V = mostI xs V - 1) := by
  have hg := upTo_get hu hv
  have hok : dropOk xs v (List.replicate (xs.length - 1 - v) V) = true := by
    refine dropOk_4 h1 (dropPl_true.2 ⟨⟨by omega, by omega⟩, by rw [Int.toNat_natCast]; exact hx⟩) (dropFit_true.2 ⟨by rw [List.length_replicate]; omega, upTo_true.2 (fun z hz => ?_)⟩)
    rw [List.eq_of_mem_replicate hz]
    omega
  obtain ⟨r1, r2, _⟩ := dropRow_less hok
  have hupd : upTo V (dropRow xs v (List.replicate (xs.length - 1 - v) V)) = true := by
    rw [dropRow_yes hok, Int.toNat_natCast, upTo_true]
    intro z hz
    rcases List.mem_append.1 hz with hz | hz
    · exact upTo_true.1 hu z (List.mem_of_mem_take hz)
    · rcases List.mem_cons.1 hz with rfl | hz
      · omega
      · rw [List.eq_of_mem_replicate hz]; omega
  have e1 : mostI xs V = hor (V + 1) ((hor (V + 1) 0 (xs.take v)) * (V + 1) + xs.getD v 0) (xs.drop (v + 1)) := by
    rw [mostI_in h1 ⟨hV0, hV9⟩ hu]
    conv => lhs; rw [take_mid hv]
    rw [hor_app, hor]
  have e2 : mostI (dropRow xs v (List.replicate (xs.length - 1 - v) V)) V = ((hor (V + 1) 0 (xs.take v)) * (V + 1) + xs.getD v 0) * (V + 1) ^ (xs.length - 1 - v) - 1 := by
    rw [mostI_in r1 ⟨hV0, hV9⟩ hupd, dropRow_yes hok, Int.toNat_natCast, hor_app, hor]
    have e3 := hor_top (V + 1) (xs.length - 1 - v) ((hor (V + 1) 0 (xs.take v)) * (V + 1) + (xs.getD v 0 - 1))
    rw [show V + 1 - 1 = V by omega] at e3
    rw [e3]
    congr 2
    omega
  have hP : 0 ≤ hor (V + 1) 0 (xs.take v) := by
    have := hor_ge (V + 1) (by omega) (xs.take v) 0 (by omega) (fun y hy => (upTo_true.1 hu y (List.mem_of_mem_take hy)).1)
    simpa using this
  have hPb : 0 ≤ hor (V + 1) 0 (xs.take v) * (V + 1) := Int.mul_nonneg hP (by omega)
  have hge := hor_ge (V + 1) (by omega) (xs.drop (v + 1)) ((hor (V + 1) 0 (xs.take v)) * (V + 1) + xs.getD v 0) (by omega) (fun y hy => (upTo_true.1 hu y (List.mem_of_mem_drop hy)).1)
  rw [List.length_drop, show xs.length - (v + 1) = xs.length - 1 - v by omega, ← e1] at hge
  have hpos : 1 ≤ ((hor (V + 1) 0 (xs.take v)) * (V + 1) + xs.getD v 0) * (V + 1) ^ (xs.length - 1 - v) := by
    have hpk : ∀ k : Nat, (1 : Int) ≤ (V + 1) ^ k := fun k => by
      induction k with
      | zero => simp
      | succ k ih =>
        rw [Int.pow_succ]
        have := Int.mul_le_mul ih (show (1 : Int) ≤ V + 1 by omega) (by omega) (by omega)
        omega
    have hp := hpk (xs.length - 1 - v)
    have := Int.mul_le_mul (show (1 : Int) ≤ (hor (V + 1) 0 (xs.take v)) * (V + 1) + xs.getD v 0 by omega) hp (by omega) (by omega)
    omega
  refine ⟨hok, by omega, by omega, fun hz => ?_⟩
  have e4 := hor_zero (V + 1) (xs.drop (v + 1)) ((hor (V + 1) 0 (xs.take v)) * (V + 1) + xs.getD v 0) (fun y hy => by
    obtain ⟨i, hi, rfl⟩ := List.mem_iff_getElem.1 hy
    rw [List.length_drop] at hi
    rw [List.getElem_drop, ← getD_at (by omega)]
    exact hz _ (by omega) (by omega))
  rw [List.length_drop, show xs.length - (v + 1) = xs.length - 1 - v by omega, ← e1] at e4
  omega

theorem most_zero {xs : List Int} {V : Int} (h1 : rowB xs = true) (hV0 : 0 ≤ V) (hV9 : V ≤ 9) (hu : upTo V xs = true) : mostI xs V = 0 ↔ ∀ j, j < xs.length → xs.getD j 0 = 0 := by
  rw [mostI_in h1 ⟨hV0, hV9⟩ hu, hor_none (V + 1) (by omega) xs 0 (by omega) (fun y hy => (upTo_true.1 hu y hy).1)]
  constructor
  · rintro ⟨_, h⟩ j hj
    exact h _ (getD_in hj)
  · intro h
    refine ⟨rfl, fun y hy => ?_⟩
    obtain ⟨i, hi, rfl⟩ := List.mem_iff_getElem.1 hy
    rw [← getD_at hi]
    exact h i hi

end Go.Proofs.Ytnacndlfjlibmaa

/- DrawRow -/
/- What the laws of chapter 6 draw: lists. -/
namespace Go.Proofs.Ytnacndlfjlibmaa
set_option maxRecDepth 100000
open Go.RowKit

/-- A list that was drawn. -/
def RowDrw (w : World) (g P : Nat) (e : Ending) (w' : World) : Prop :=
  ∃ (xs : List Int) (g' n c : Nat), n = xs.length ∧ e = .returned (.slice (some ⟨g', 0, none⟩) n c) ∧ w'.ownsRow w.heap.size 3 1 (.slice (some ⟨g', 0, none⟩) n c) n (ints xs) ∧
    n ≤ 6 ∧ RdOk w' g (P + 20) ∧ w.grownBy w' (some g)

def RwRel (w : World) (g P L k : Nat) (v7 v8 : Value) (wr : World) : Prop :=
  ∃ (i : Nat) (xs : List Int) (g1 c1 : Nat), v8 = .int .i64 i ∧ k + i = L ∧ xs.length = i ∧ v7 = .slice (some ⟨g1, 0, none⟩) i c1 ∧ wr.ownsRow w.heap.size 3 1 v7 i (ints xs) ∧ RdOk wr g (P + i) ∧ w.grownBy wr (some g)

theorem rw_fin {w w7 w8 : World} {g P n g' c : Nat} {xs : List Int} (h0 : w.grownBy w7 (some g)) (hg : w7.grownBy w8 none) (hr : RdOk w7 g (P + 20)) (hn : n = xs.length) (hl : n ≤ 6)
    (ho : w8.ownsRow w7.heap.size 3 1 (.slice (some ⟨g', 0, none⟩) n c) n (ints xs)) : RowDrw w g P (.returned (.slice (some ⟨g', 0, none⟩) n c)) w8 :=
  ⟨xs, g', n, c, hn, rfl, Joins.ownsRow_le ho h0.size, hl, hr.kept hg (fun k hk => by cases hk), grownBy_step h0 hg (fun k hk => by cases hk)⟩

set_option maxHeartbeats 4000000 in
theorem l20Row_any (g P L : Nat) (n : Int) (w : World) (hP : P ≤ 90000000) (hL1 : 1 ≤ L) (hL : L ≤ 6) (hn0 : 0 ≤ n) (hn1 : n ≤ 1000000) (hrd : RdOk w g P) :
    Calls Try.prog 58 #[.pointer (some ⟨g, 0, none⟩), .int .i64 L, .int .i64 n] w (RowDrw w g P) := by
  obtain ⟨i0, hi, hz0, hz1, hz2⟩ := info_parts info_int
  have hgl : g < w.heap.size := by obtain ⟨_, _, _, _, h1, _⟩ := hrd; exact (Array.getElem?_eq_some_iff.1 h1).1
  have hst : RwRel w g P L L (.slice (some ⟨w.heap.size, 0, none⟩) 0 0) (.int .i64 (0 : Nat)) (w.alloc (.cells #[] 3)) :=
    ⟨0, [], w.heap.size, 0, rfl, rfl, rfl, rfl, World.ownsRow_lit w #[] 0 (Nat.le_refl _) (by simp [maxLen]) rfl, hrd.kept (World.grownBy_alloc w _ none) (fun k hk => by cases hk), World.grownBy_alloc w _ _⟩
  have Hst := Lib.hid hst
  clear hrd hst
  go_enter Try.func58, Try.ntmps58
  go_wp2_with fail
  go_loopg [7, 8] L (fun k v7 v8 wr => RwRel w g P L k v7 v8 wr)
  case atStart => exact Hst.out
  case round =>
    obtain ⟨i, xs, g1, c1, rfl, hk, hxl, rfl, ho, hr, hg⟩ := hrel
    have Hk := Lib.hid hk
    have Hxl := Lib.hid hxl
    have Ho := Lib.hid ho
    have Hg := Lib.hid hg
    have hil : i ≤ L := by omega
    have hws : w.heap.size ≤ wr.heap.size := hg.size
    by_cases hlt : i < L
    · have kp := Lib.hid (pick_any g (P + i) 4 wr (by omega) (by decide) (by decide) hr)
      clear hk hxl ho hr hg
      go_wp2_with fail
      refine (kp.out).mono ?_
      rintro ee w2 ⟨x, rfl, hx, hrd2, hg2⟩
      have HoA := Lib.hid (own_rd Ho.out hg2 hgl)
      have HgA := Lib.hid (grownBy_trans Hg.out hg2)
      have Hrd2 := Lib.hid hrd2
      have hw2 : w.heap.size ≤ w2.heap.size := HgA.out.size
      clear hx hrd2 hg2
      go_wp2_with (first
        | (at_builtin; refine wpList_append_own _ rfl (.tmp 15) (.tmp 18) 23 rfl w.heap.size 3 i0 (.int .i64 0) 1 8 Try.underlying23 hi hz0 hz1 hz2 rfl (by decide) _ i (ints xs) rfl (HoA.out.alloc _) ⟨w2.heap.size, 0, none⟩ 1 1 [.int .i64 x] rfl rfl (cell_one_new _ _ _) (ints_oneCell _ [x]) (by unfold maxLen; omega) (by omega) (by simp; omega) ?_; intro v2' w3 ho3 hg3 _))
      obtain ⟨g6, c6, rfl⟩ := Joins.ownsRow_form ho3 (by omega)
      have hfin : RwRel w g P L (gk - 1) (.slice (some ⟨g6, 0, none⟩) (i + 1) c6) (.int .i64 ((i : Int) + 1)) w3 := by
        have hgB : w2.grownBy (w2.alloc (.cells #[.int .i64 x] 3)) none := World.grownBy_alloc w2 _ none
        have hrw : ∀ k, Value.ownBlock (.slice (some ⟨g1, 0, none⟩) i c1) = some k → w.heap.size ≤ k := fun k hk => (HoA.out.lt k hk).1
        refine ⟨i + 1, xs ++ [x], g6, c6, by go_num, by have := Hk.out; omega, by rw [List.length_append, Hxl.out]; rfl, rfl, by simpa [ints] using ho3, ?_, grownBy_step (grownBy_step HgA.out hgB (fun k hk => by cases hk)) hg3 (fun k hk => .inr (hrw k hk))⟩
        exact ((Hrd2.out.kept hgB (fun k hk => by cases hk)).kept hg3 (fun k hk => by have := hrw k hk; omega)).mono (by omega)
      have Hfin := Lib.hid hfin
      clear hfin ho3 hg3
      go_wp2_with fail
      go_roundg (gk - 1)
      case measure => have := Hk.out; omega
      case rel => exact Hfin.out
    · obtain rfl : i = L := by omega
      have ko := Lib.hid (odd_any g (P + i) n wr (by omega) (by omega) (by omega) hr)
      clear hk hxl ho hr hg
      go_wp2_with fail
      refine (ko.out).mono ?_
      rintro ee w6 ⟨b, rfl, hr6, hg6⟩
      have Hg6 := Lib.hid (grownBy_trans Hg.out hg6)
      have Ho6 := Lib.hid (own_rd Ho.out hg6 hgl)
      have Hr6 := Lib.hid hr6
      clear hr6 hg6
      cases b with
      | false =>
        go_wp2_with fail
        go_ret
        exact ⟨xs, g1, i, c1, Hxl.out.symm, rfl, Ho6.out, by omega, Hr6.out.mono (by omega), Hg6.out⟩
      | true =>
        have kp := Lib.hid (pick_any g (P + i + 1) 3 w6 (by omega) (by decide) (by decide) Hr6.out)
        go_wp2_with fail
        refine (kp.out).mono ?_
        rintro ee w7 ⟨r, rfl, hr7, hrd7, hg7⟩
        have hr70 := hr7.1
        have hr71 := hr7.2.1 (by decide)
        have Hg7 := Lib.hid (grownBy_trans Hg6.out hg7)
        have Ho7 := Lib.hid (own_rd Ho6.out hg7 hgl)
        have Hr7 := Lib.hid hrd7
        clear hr7 hrd7 hg7
        have hcase : r = 0 ∨ r = 1 ∨ r = 2 := by omega
        rcases hcase with rfl | rfl | rfl
        · go_wp2_with fail
          go_ret
          exact rw_fin (xs := []) Hg7.out (World.grownBy_alloc w7 _ none) (Hr7.out.mono (by omega)) rfl (by decide) (World.ownsRow_lit w7 #[] 0 (Nat.le_refl _) (by simp [maxLen]) rfl)
        · go_wp2_with (first
            | (at_make; refine wpList_make_full _ rfl (.const (.int .i64 6)) (.const (.int .i64 6)) 23 rfl w7.heap.size 3 i0 _ 1 Try.underlying23 hi hz0 hz1 .i64 .i64 _ _ 6 rfl rfl rfl rfl (by rw [hz2]; omega) (by unfold maxLen; omega) (Nat.le_refl _) ?_; intro w8 hown hg8))
          have ho8 : w8.ownsRow w7.heap.size 3 1 (.slice (some ⟨w7.heap.size, 0, none⟩) 6 6) 6 (ints [0, 0, 0, 0, 0, 0]) := by
            rw [show 6 * 1 = 6 from rfl, show (Value.int .i64 0).cells = #[Value.int .i64 0] from rfl, toList_madeCells_one] at hown
            exact hown
          have hfin := rw_fin (xs := [0, 0, 0, 0, 0, 0]) Hg7.out hg8 (Hr7.out.mono (show P + i + 1 + 1 ≤ P + 20 by omega)) rfl (by decide) ho8
          have Hfin := Lib.hid hfin
          clear hown hg8 ho8 hfin
          go_wp2_with fail
          go_ret
          exact Hfin.out
        · obtain ⟨W, hW⟩ : ∃ W, W = w7.alloc (.cells #[.int .i64 (-1), .int .i64 10000] 3) := ⟨_, rfl⟩
          have hgW : w7.grownBy W none := by rw [hW]; exact World.grownBy_alloc w7 _ none
          have hc0 : W.cell? ⟨w7.heap.size, 0, none⟩ = some (.int .i64 (-1)) := by rw [hW]; exact Joins.cell_alloc_mark_at _ _ _ _ _ _ rfl
          have hc1 : W.cell? ⟨w7.heap.size, 1, none⟩ = some (.int .i64 10000) := by rw [hW]; exact Joins.cell_alloc_mark_at _ _ _ _ _ _ rfl
          have hlW : w7.heap.size ≠ g := by have := Hg7.out.size; omega
          have HgW := Lib.hid (grownBy_step Hg7.out hgW (fun k hk => by cases hk))
          have HoW := Lib.hid (show W.ownsRow w.heap.size 3 1 (.slice (some ⟨g1, 0, none⟩) i c1) i (ints xs) by rw [hW]; exact Ho7.out.alloc _)
          have kp2 := Lib.hid (pick_any g (P + i + 1 + 1) 2 W (by omega) (by decide) (by decide) (Hr7.out.kept hgW (fun k hk => by cases hk)))
          have HW := Lib.hid hW.symm
          clear hW hgW
          have hi1 : 1 ≤ i := by omega
          go_wp2_with fail
          rw [HW.out]
          refine (kp2.out).mono ?_
          rintro ee w8 ⟨s, rfl, hs8, hrd8, hg8⟩
          have hs0 := hs8.1
          have hs1 := hs8.2.1 (by decide)
          have Hg8 := Lib.hid (grownBy_trans HgW.out hg8)
          have Ho8 := Lib.hid (own_rd HoW.out hg8 hgl)
          have Hr8 := Lib.hid hrd8
          have d0 := hg8.cell (a := ⟨w7.heap.size, 0, none⟩) hc0 (by simpa using hlW)
          have d1 := hg8.cell (a := ⟨w7.heap.size, 1, none⟩) hc1 (by simpa using hlW)
          clear hs8 hrd8 hg8 hc0 hc1
          have hf := Ho8.out.frozenAt 0
          have hcur : ∃ v, w8.cell? ⟨g1, 0, none⟩ = some v := by
            have h9 := Ho8.out.cellAt 0 (by omega)
            rw [ints_get xs 0 (by rw [Hxl.out]; omega)] at h9
            exact ⟨_, h9⟩
          obtain ⟨v0, hv0⟩ := hcur
          have hfin : ∀ z : Int, RowDrw w g P (.returned (.slice (some ⟨g1, 0, none⟩) i c1)) (w8.setCell ⟨g1, 0, none⟩ (.int .i64 z)) := by
            intro z
            have h7 := (Ho8.out.stored 0 (.int .i64 z)).1
            have hgg : w.heap.size ≤ g1 := (Ho8.out.lt g1 rfl).1
            have hset : w8.grownBy (w8.setCell ⟨g1, 0, none⟩ (.int .i64 z)) (some g1) :=
              ⟨rfl, rfl, rfl, by simp [World.setCell], fun k _ hk => heap_setCell_other w8 ⟨g1, 0, none⟩ k _ (fun e => hk (by simp [e]))⟩
            refine ⟨xs.set 0 z, g1, i, c1, by rw [List.length_set, Hxl.out], rfl, ?_, by omega, (Hr8.out.kept hset (fun k hk => by cases hk; omega)).mono (by omega), grownBy_step Hg8.out hset (fun k hk => by cases hk; exact .inr hgg)⟩
            have e9 : (ints xs).set 0 (.int .i64 z) = ints (xs.set 0 z) := by simp [ints, List.map_set]
            rw [← e9]
            exact h7
          have Hfin := Lib.hid hfin
          clear hfin
          have hcase2 : s = 0 ∨ s = 1 := by omega
          rcases hcase2 with rfl | rfl
          · go_wp2_with fail
            go_ret
            exact Hfin.out (-1)
          · go_wp2_with fail
            go_ret
            exact Hfin.out 10000

def RowDraw (w : World) (e : Ending) (w' : World) : Prop :=
  ∃ (xs : List Int) (g n c : Nat), n = xs.length ∧ e = .returned (.slice (some ⟨g, 0, none⟩) n c) ∧ w'.ownsRow w.heap.size 3 1 (.slice (some ⟨g, 0, none⟩) n c) n (ints xs) ∧ n ≤ 6 ∧ Below w.heap.size w w'

theorem row_draw {w w1 w2 : World} {xs : List Int} {g' n c : Nat} (hb : Below w.heap.size w w1) (hg : w1.grownBy w2 (some w.heap.size)) (hn : n = xs.length) (hl : n ≤ 6)
    (ho : w2.ownsRow w1.heap.size 3 1 (.slice (some ⟨g', 0, none⟩) n c) n (ints xs)) : RowDraw w (.returned (.slice (some ⟨g', 0, none⟩) n c)) w2 :=
  ⟨xs, g', n, c, hn, rfl, Joins.ownsRow_le ho hb.size, hl, hb.grown hg hb.size (fun k e => by cases e; exact Nat.le_refl _)⟩

set_option maxHeartbeats 2000000 in
theorem drawRowValid_any (a : Option Addr) (len cap : Nat) (w : World) (h : By w a len cap) : Calls Try.prog 14 #[.slice a len cap] w (RowDraw w) := by
  have k0 := Lib.hid (open_any a len cap w h)
  obtain ⟨g, hg⟩ : ∃ g, g = w.heap.size := ⟨_, rfl⟩
  rw [← hg] at k0
  have Hg := Lib.hid hg
  clear hg h
  go_enter Try.func14, Try.ntmps14
  go_wp2_with fail
  refine (k0.out).mono ?_
  rintro ee w1 ⟨rfl, hr1, hb1⟩
  have Hb1 := Lib.hid hb1
  have hws : w.heap.size ≤ w1.heap.size := hb1.size
  have hb1' := hb1
  clear hb1
  have k2 := Lib.hid (pick_any g 0 5 w1 (by decide) (by decide) (by decide) hr1)
  clear hr1
  go_wp2_with fail
  refine (k2.out).mono ?_
  rintro ee w2 ⟨r, rfl, hq2, hr2, hg2⟩
  have r0 := hq2.1
  have r1 := hq2.2.1 (by decide)
  obtain ⟨q, rfl⟩ := Int.eq_ofNat_of_zero_le r0
  have Hg2 := Lib.hid hg2
  have k3 := Lib.hid (l20Row_any g (0 + 1) (1 + q) 3 w2 (by decide) (by omega) (by omega) (by decide) (by decide) hr2)
  have eL : ((1 + q : Nat) : Int) = 1 + (q : Int) := by omega
  rw [eL] at k3
  clear hr2 hq2 hg2 eL hb1'
  go_wp2_with fail
  refine (k3.out).mono ?_
  rintro ee w3 ⟨xs, g', n, c, hn, rfl, ho, hl, hrd, hgr⟩
  have hp : RowDraw w (.returned (.slice (some ⟨g', 0, none⟩) n c)) w3 := row_draw (show Below w.heap.size w w1 by rw [← Hg.out]; exact Hb1.out) (by rw [← Hg.out]; exact grownBy_trans Hg2.out hgr) hn hl (Joins.ownsRow_le ho Hg2.out.size)
  have Hp := Lib.hid hp
  clear hp ho hrd hgr hn
  go_wp2_with fail
  go_ret
  exact Hp.out

set_option maxHeartbeats 2000000 in
theorem drawRowOrd_any (a : Option Addr) (len cap : Nat) (w : World) (h : By w a len cap) : Calls Try.prog 23 #[.slice a len cap] w (RowDraw w) := by
  have k0 := Lib.hid (open_any a len cap w h)
  obtain ⟨g, hg⟩ : ∃ g, g = w.heap.size := ⟨_, rfl⟩
  rw [← hg] at k0
  have Hg := Lib.hid hg
  clear hg h
  go_enter Try.func23, Try.ntmps23
  go_wp2_with fail
  refine (k0.out).mono ?_
  rintro ee w1 ⟨rfl, hr1, hb1⟩
  have Hb1 := Lib.hid hb1
  have hws : w.heap.size ≤ w1.heap.size := hb1.size
  have hb1' := hb1
  clear hb1
  have k2 := Lib.hid (pick_any g 0 5 w1 (by decide) (by decide) (by decide) hr1)
  clear hr1
  go_wp2_with fail
  refine (k2.out).mono ?_
  rintro ee w2 ⟨r, rfl, hq2, hr2, hg2⟩
  have r0 := hq2.1
  have r1 := hq2.2.1 (by decide)
  obtain ⟨q, rfl⟩ := Int.eq_ofNat_of_zero_le r0
  have Hg2 := Lib.hid hg2
  have k3 := Lib.hid (l20Row_any g (0 + 1) (1 + q) 9 w2 (by decide) (by omega) (by omega) (by decide) (by decide) hr2)
  have eL : ((1 + q : Nat) : Int) = 1 + (q : Int) := by omega
  rw [eL] at k3
  clear hr2 hq2 hg2 eL hb1'
  go_wp2_with fail
  refine (k3.out).mono ?_
  rintro ee w3 ⟨xs, g', n, c, hn, rfl, ho, hl, hrd, hgr⟩
  have hp : RowDraw w (.returned (.slice (some ⟨g', 0, none⟩) n c)) w3 := row_draw (show Below w.heap.size w w1 by rw [← Hg.out]; exact Hb1.out) (by rw [← Hg.out]; exact grownBy_trans Hg2.out hgr) hn hl (Joins.ownsRow_le ho Hg2.out.size)
  have Hp := Lib.hid hp
  clear hp ho hrd hgr hn
  go_wp2_with fail
  go_ret
  exact Hp.out


set_option maxHeartbeats 2000000 in
theorem drawRowCompare_any (a : Option Addr) (len cap : Nat) (w : World) (h : By w a len cap) : Calls Try.prog 18 #[.slice a len cap] w (fun e w' =>
    ∃ (xs ys : List Int) (g n c g2 n2 c2 : Nat), n = xs.length ∧ n2 = ys.length ∧ e = .returned (.tuple #[.slice (some ⟨g, 0, none⟩) n c, .slice (some ⟨g2, 0, none⟩) n2 c2]) ∧ w'.ownsRow w.heap.size 3 1 (.slice (some ⟨g, 0, none⟩) n c) n (ints xs) ∧
      w'.ownsRow w.heap.size 3 1 (.slice (some ⟨g2, 0, none⟩) n2 c2) n2 (ints ys) ∧ n ≤ 6 ∧ n2 ≤ 6 ∧ Below w.heap.size w w') := by
  have k0 := Lib.hid (open_any a len cap w h)
  obtain ⟨g, hg⟩ : ∃ g, g = w.heap.size := ⟨_, rfl⟩
  rw [← hg] at k0
  have Hg := Lib.hid hg
  clear hg h
  go_enter Try.func18, Try.ntmps18
  go_wp2_with fail
  refine (k0.out).mono ?_
  rintro ee w1 ⟨rfl, hr1, hb1⟩
  have Hb1 := Lib.hid (show Below w.heap.size w w1 by rw [← Hg.out]; exact hb1)
  have hgw1 : g < w1.heap.size := by obtain ⟨_, _, _, _, h1, _⟩ := hr1; exact (Array.getElem?_eq_some_iff.1 h1).1
  have k2 := Lib.hid (pick_any g 0 4 w1 (by decide) (by decide) (by decide) hr1)
  clear hr1 hb1
  go_wp2_with fail
  refine (k2.out).mono ?_
  rintro ee w2 ⟨r, rfl, hq, hr2, hg2⟩
  have r0 := hq.1
  have r1 := hq.2.1 (by decide)
  obtain ⟨q, rfl⟩ := Int.eq_ofNat_of_zero_le r0
  have Hg2 := Lib.hid hg2
  have k3 := Lib.hid (l20Row_any g (0 + 1) (1 + q) 12 w2 (by decide) (by omega) (by omega) (by decide) (by decide) hr2)
  have eL : ((1 + q : Nat) : Int) = 1 + (q : Int) := by omega
  rw [eL] at k3
  have hs2 : w1.heap.size ≤ w2.heap.size := hg2.size
  clear hr2 hq hg2 eL
  go_wp2_with fail
  refine (k3.out).mono ?_
  rintro ee w3 ⟨xs, g1, n, c, hn, rfl, ho, hl, hrd, hgr⟩
  have HO := Lib.hid ho
  have HN := Lib.hid hn
  have Hg3 := Lib.hid (grownBy_trans Hg2.out hgr)
  have k4 := Lib.hid (pick_any g (0 + 1 + 20) 12 w3 (by decide) (by decide) (by decide) hrd)
  clear ho hn hrd hgr
  go_wp2_with fail
  refine (k4.out).mono ?_
  rintro ee w4 ⟨s, rfl, hq4, hr4, hg4⟩
  have s0 := hq4.1
  have s1 := hq4.2.1 (by decide)
  obtain ⟨sn, rfl⟩ := Int.eq_ofNat_of_zero_le s0
  obtain ⟨d, hd⟩ : ∃ d, d = sn / 11 := ⟨_, rfl⟩
  have hd1 : d ≤ 1 := by omega
  have hdq : ((sn : Int)).tdiv 11 = (d : Int) := by rw [Int.tdiv_eq_ediv_of_nonneg (by omega), hd]; rfl
  have hdq2 : (sn : Int) / 11 = (d : Int) := by rw [hd]; rfl
  have HO4 := Lib.hid (own_rd HO.out hg4 (by omega))
  have Hg4 := Lib.hid (grownBy_trans Hg3.out hg4)
  have k5 := Lib.hid (l20Row_any g (0 + 1 + 20 + 1) (1 + q + d) 12 w4 (by decide) (by omega) (by omega) (by decide) (by decide) hr4)
  have eL : ((1 + q + d : Nat) : Int) = 1 + (q : Int) + (d : Int) := by omega
  rw [eL] at k5
  have hs4 : w2.heap.size ≤ w4.heap.size := by have := hg4.size; have := HO.out; have h1 := Hg3.out.size; have h2 := (HO.out.lt g1 rfl); omega
  clear hr4 hq4 hg4 eL hd
  go_wp2_with fail
  refine (k5.out).mono ?_
  rintro ee w5 ⟨ys, g2, n2, c2, hn2, rfl, ho2, hl2, hrd5, hgr5⟩
  have HO5 := Lib.hid (own_rd HO4.out hgr5 (by omega))
  have Hg5 := Lib.hid (grownBy_trans Hg4.out hgr5)
  have HO2 := Lib.hid (Joins.ownsRow_le ho2 (Nat.le_trans Hb1.out.size (Nat.le_trans hs2 hs4)))
  have HN2 := Lib.hid hn2
  have HB := Lib.hid (Hb1.out.grown Hg5.out Hb1.out.size (fun k e => by cases e; rw [Hg.out]; exact Nat.le_refl _))
  have HO6 := Lib.hid (Joins.ownsRow_le HO5.out (Nat.le_trans Hb1.out.size hs2))
  clear ho2 hrd5 hgr5 hn2
  go_wp2_with fail
  go_ret2
  exact ⟨xs, ys, g1, n, c, g2, n2, c2, HN.out, HN2.out, rfl, HO6.out, HO2.out, hl, hl2, HB.out⟩

end Go.Proofs.Ytnacndlfjlibmaa

/- DrawRowE -/
/- What the law of RowMost draws. -/
namespace Go.Proofs.Ytnacndlfjlibmaa
set_option maxRecDepth 100000
open Go.RowKit

set_option maxHeartbeats 2000000 in
theorem drawRowMost_any (a : Option Addr) (len cap : Nat) (w : World) (h : By w a len cap) : Calls Try.prog 33 #[.slice a len cap] w (fun e w' =>
    ∃ (xs : List Int) (V : Int) (g n c : Nat), n = xs.length ∧ e = .returned (.tuple #[.slice (some ⟨g, 0, none⟩) n c, .int .i64 V]) ∧ w'.ownsRow w.heap.size 3 1 (.slice (some ⟨g, 0, none⟩) n c) n (ints xs) ∧ n ≤ 6 ∧ 0 ≤ V ∧ V ≤ 20 ∧ Below w.heap.size w w') := by
  have k0 := Lib.hid (open_any a len cap w h)
  obtain ⟨g, hg⟩ : ∃ g, g = w.heap.size := ⟨_, rfl⟩
  rw [← hg] at k0
  have Hg := Lib.hid hg
  clear hg h
  go_enter Try.func33, Try.ntmps33
  go_wp2_with fail
  refine (k0.out).mono ?_
  rintro ee w1 ⟨rfl, hr1, hb1⟩
  have Hb1 := Lib.hid (show Below w.heap.size w w1 by rw [← Hg.out]; exact hb1)
  have hgw1 : g < w1.heap.size := by obtain ⟨_, _, _, _, h1, _⟩ := hr1; exact (Array.getElem?_eq_some_iff.1 h1).1
  have k2 := Lib.hid (pick_any g 0 3 w1 (by decide) (by decide) (by decide) hr1)
  clear hr1 hb1
  go_wp2_with fail
  refine (k2.out).mono ?_
  rintro ee w2 ⟨r, rfl, hq, hr2, hg2⟩
  have r0 := hq.1
  have r1 := hq.2.1 (by decide)
  obtain ⟨q, rfl⟩ := Int.eq_ofNat_of_zero_le r0
  have Hg2 := Lib.hid hg2
  have k3 := Lib.hid (l20Row_any g (0 + 1) (1 + q) 12 w2 (by decide) (by omega) (by omega) (by decide) (by decide) hr2)
  have eL : ((1 + q : Nat) : Int) = 1 + (q : Int) := by omega
  rw [eL] at k3
  have hs2 : w1.heap.size ≤ w2.heap.size := hg2.size
  clear hr2 hq hg2 eL
  go_wp2_with fail
  refine (k3.out).mono ?_
  rintro ee w3 ⟨xs, g1, n, c, hn, rfl, ho, hl, hrd, hgr⟩
  have HO := Lib.hid (Joins.ownsRow_le ho (Nat.le_trans Hb1.out.size hs2))
  have HN := Lib.hid hn
  have Hg3 := Lib.hid (grownBy_trans Hg2.out hgr)
  have hg1 : w1.heap.size ≤ g1 := by have := (ho.lt g1 rfl).1; omega
  have HOa := Lib.hid (Joins.ownsRow_le ho hs2)
  have k4 := Lib.hid (pick_any g (0 + 1 + 20) 5 w3 (by decide) (by decide) (by decide) hrd)
  clear ho hn hrd hgr
  go_wp2_with fail
  refine (k4.out).mono ?_
  rintro ee w4 ⟨s, rfl, hq4, hr4, hg4⟩
  have s0 := hq4.1
  have s1 := hq4.2.1 (by decide)
  have HO4 := Lib.hid (own_rd HOa.out hg4 (by omega))
  have Hg4 := Lib.hid (grownBy_trans Hg3.out hg4)
  have k5 := Lib.hid (pick_any g (0 + 1 + 20 + 1) 20 w4 (by decide) (by decide) (by decide) hr4)
  clear hr4 hq4 hg4
  go_wp2_with fail
  refine (k5.out).mono ?_
  rintro ee w5 ⟨u, rfl, hq5, hr5, hg5⟩
  have u0 := hq5.1
  have u1 := hq5.2.1 (by decide)
  obtain ⟨un, rfl⟩ := Int.eq_ofNat_of_zero_le u0
  obtain ⟨d, hd⟩ : ∃ d, d = un / 19 := ⟨_, rfl⟩
  have hd1 : d ≤ 1 := by omega
  have hdq : ((un : Int)).tdiv 19 = (d : Int) := by rw [Int.tdiv_eq_ediv_of_nonneg (by omega), hd]; rfl
  have hdq2 : (un : Int) / 19 = (d : Int) := by rw [hd]; rfl
  have HO5 := Lib.hid (Joins.ownsRow_le (own_rd HO4.out hg5 (by omega)) Hb1.out.size)
  have HB := Lib.hid (Hb1.out.grown (grownBy_trans Hg4.out hg5) Hb1.out.size (fun k e => by cases e; rw [Hg.out]; exact Nat.le_refl _))
  clear hr5 hq5 hg5 hd
  go_wp2_with fail
  go_ret2
  exact ⟨xs, s + (d : Int) * 9, g1, n, c, HN.out, rfl, HO5.out, hl, by omega, by omega, HB.out⟩

end Go.Proofs.Ytnacndlfjlibmaa

/- LFnRowMost -/
/- FnRowMost: the walk of the law. -/
namespace Go.Proofs.Ytnacndlfjlibmaa
set_option maxRecDepth 100000
open Go.RowKit

def MostIn (wL : World) (V : Int) (xs : List Int) (v n : Nat) (v9 v10 v11 : Value) (wr : World) : Prop :=
  ∃ (i p g2 c2 : Nat) (l : Bool), v11 = .int .i64 p ∧ p ≤ n ∧ Hid (p = v + 1 + i) ∧ i ≤ 6 ∧ v10 = .bool l ∧ Hid (l = true ↔ ∀ j, v < j → j < p → xs.getD j 0 = 0) ∧ v9 = .slice (some ⟨g2, 0, none⟩) i c2 ∧
    wr.ownsRow wL.heap.size 3 1 v9 i (ints (List.replicate i V)) ∧ Below wL.heap.size wL wr

set_option maxHeartbeats 8000000 in
theorem fnRowMost_walk (a : Option Addr) (len cap : Nat) (w : World) (h : By w a len cap) :
    Calls Try.prog 7 #[.slice a len cap] w fun e w' => e = .returned (.bool true) ∧ Below w.heap.size w w' := by
  have hlm : len ≤ 9223372036854775807 := by have := h.1; have := h.2.1; unfold maxLen at this; omega
  by_cases hbig : 1048576 < len
  · clear h
    go_enter Try.func7, Try.ntmps7
    go_wp2_with fail
    go_ret
    exact ⟨rfl, Below.refl _ _⟩
  obtain ⟨i0, hi, hz0, hz1, hz2⟩ := info_parts info_int
  have k0 := Lib.hid (drawRowMost_any a len cap w h)
  clear h
  go_enter Try.func7, Try.ntmps7
  go_wp2_with fail
  refine (k0.out).mono ?_
  rintro ee w1 ⟨xs, V, g, n, c, hn, rfl, ho, hl, hV0, hV20, hb0⟩
  have Hn := Lib.hid hn
  have X0 := Lib.hid (Sl.of_own ho)
  have Ht0 := Lib.hid hb0
  have k1 := Lib.hid (impl_RowMost _ n c xs V w1 (Sl.of_own ho) (by omega) (by omega))
  have hcase := mostI_vals xs V
  obtain ⟨z, hz⟩ : ∃ z, z = mostI xs V := ⟨_, rfl⟩
  have Hz := Lib.hid hz
  rw [← hz] at k1 hcase
  have hne : (z != z) = false := by simp
  clear hn ho hb0 hz
  go_wp2_with fail
  refine (k1.out).mono ?_
  rintro ee w2 ⟨rfl, hb2⟩
  have X2 := Lib.hid (X0.out.below hb2)
  have Ht2 := Lib.hid (Ht0.out.trans (hb2.mono Ht0.out.size))
  have k2 := Lib.hid (spec_RowMost _ n c xs V w2 X2.out (by omega) (by omega))
  rw [← Hz.out] at k2
  clear hb2
  go_wp2_with fail
  refine (k2.out).mono ?_
  rintro ee w3 ⟨rfl, hb3⟩
  have X3 := Lib.hid (X2.out.below hb3)
  have Ht3 := Lib.hid (Ht2.out.trans (hb3.mono Ht2.out.size))
  clear hb3
  rcases hcase with rfl | ⟨hB, hV0', hV9, hU, hzh, hz0', hz9⟩
  · have ka := Lib.hid (alive_any w3)
    go_wp2_with fail
    refine (ka.out).mono ?_
    rintro ee w4 ⟨rfl, hb4⟩
    have Ht4 := Lib.hid (Ht3.out.trans (hb4.mono Ht3.out.size))
    clear hb4
    go_wp2_with fail
    go_ret
    exact ⟨rfl, Ht4.out⟩
  · have HB := Lib.hid hB
    have HU := Lib.hid hU
    have hzn : ¬ z < 0 := by omega
    have Hm0 := Lib.hid (most_zero hB hV0' hV9 hU)
    rw [← Hz.out] at Hm0
    have hn1 : 1 ≤ n := by have := (rowB_true.1 hB).1; have := Hn.out; omega
    clear hB hU hzh
    go_wp2_with fail
    go_loopw [6, 7] (fun v6 v7 wr => ∃ (k : Nat) (l : Bool), k ≤ n ∧ v7 = .int .i64 k ∧ v6 = .bool l ∧ Hid (l = true ↔ ∀ j, j < k → xs.getD j 0 = 0) ∧ Below w3.heap.size w3 wr) (fun _ v7 _ => n - (intOf v7).toNat)
    case atStart => exact ⟨0, true, Nat.zero_le _, rfl, rfl, Lib.hid ⟨fun _ j hj => by omega, fun _ => rfl⟩, Below.refl _ _⟩
    case round =>
      obtain ⟨k, l, hk, rfl, rfl, HL, hbel⟩ := hrel
      have XR := Lib.hid (X3.out.below hbel)
      have HtR := Lib.hid (Ht3.out.trans (hbel.mono Ht3.out.size))
      have Hbel := Lib.hid hbel
      clear hbel
      by_cases hlt : k < n
      · obtain ⟨b, off, he, hat⟩ := XR.out.2.2.2 (by omega)
        cases he
        have hkx : k < xs.length := by have := Hn.out; omega
        have y0 := hat k hkx
        rw [Nat.zero_add] at y0
        obtain ⟨y, hy⟩ : ∃ y, y = xs.getD k 0 := ⟨_, rfl⟩
        rw [← hy] at y0
        have Hy := Lib.hid hy
        have hfin : ∀ l2 : Bool, (l2 = true ↔ l = true ∧ y = 0) → (l2 = true ↔ ∀ j, j < k + 1 → xs.getD j 0 = 0) := by
          intro l2 h2
          rw [h2, HL.out]
          constructor
          · rintro ⟨h3, h4⟩ j hj
            by_cases hjk : j = k
            · subst hjk; rw [← Hy.out]; exact h4
            · exact h3 j (by omega)
          · intro h3
            exact ⟨fun j hj => h3 j (by omega), by rw [Hy.out]; exact h3 k (by omega)⟩
        have Hfin := Lib.hid hfin
        clear hat hkx hy hfin
        cases l with
        | false =>
          have HF := Lib.hid (Hfin.out false (by simp))
          go_wp2_with fail
          go_roundw
          case measure => exact next_measure hlt
          case rel => exact ⟨k + 1, false, by omega, by go_num, rfl, HF, Hbel.out⟩
        | true =>
          by_cases hy0 : y = 0
          · have HF := Lib.hid (Hfin.out true (by simp [hy0]))
            have hye : (y == 0) = true := by simp [hy0]
            clear hy0
            go_wp2_with fail
            go_roundw
            case measure => exact next_measure hlt
            case rel => exact ⟨k + 1, true, by omega, by go_num, rfl, HF, Hbel.out⟩
          · have HF := Lib.hid (Hfin.out false (by simp [hy0]))
            have hye : (y == 0) = false := by simp [hy0]
            clear hy0
            go_wp2_with fail
            go_roundw
            case measure => exact next_measure hlt
            case rel => exact ⟨k + 1, false, by omega, by go_num, rfl, HF, Hbel.out⟩
      · obtain rfl : k = n := by omega
        have HZ := Lib.hid (show ((z == 0) == l) = true by
          have h1 := Hm0.out
          have h2 := HL.out
          rw [Hn.out] at h2
          by_cases h3 : z = 0
          · rw [h2.2 (h1.1 h3), h3]; rfl
          · cases l with
            | true => exact absurd (h1.2 (h2.1 rfl)) h3
            | false => simp [h3])
        clear Hm0
        obtain ⟨wA, rfl⟩ : ∃ wA : World, wA = wr := ⟨_, rfl⟩
        have hk6 : k ≤ 6 := hl
        go_wp2_with fail
        go_loopw [8, 9, 10, 11, 12, 13, 14] (fun v8 _ _ _ _ _ _ wr => ∃ (v : Nat), v ≤ k ∧ v8 = .int .i64 v ∧ Below wA.heap.size wA wr) (fun v8 _ _ _ _ _ _ _ => k - (intOf v8).toNat)
        case atStart => exact ⟨0, Nat.zero_le _, rfl, Below.refl _ _⟩
        case round =>
          obtain ⟨v, hv, rfl, hbel⟩ := hrel
          obtain ⟨wB, rfl⟩ : ∃ wB : World, wB = wr := ⟨_, rfl⟩
          have XB := Lib.hid (XR.out.below hbel)
          have HtB := Lib.hid (HtR.out.trans (hbel.mono HtR.out.size))
          have HbB := Lib.hid hbel
          clear hbel
          by_cases hlt2 : v < k
          · have hst : MostIn wB V xs v k (.slice (some ⟨wB.heap.size, 0, none⟩) 0 0) (.bool true) (.int .i64 ((v : Int) + 1)) (wB.alloc (.cells #[] 3)) :=
              ⟨0, v + 1, wB.heap.size, 0, true, rfl, by omega, Lib.hid rfl, by decide, rfl, Lib.hid ⟨fun _ j h1 h2 => by omega, fun _ => rfl⟩, rfl, World.ownsRow_lit wB #[] 0 (Nat.le_refl _) (by simp [maxLen]) rfl, (Below.refl _ _).alloc (Nat.le_refl _) _⟩
            have Hst := Lib.hid hst
            clear hst
            go_wp2_with fail
            go_loopw [9, 10, 11] (fun v9 v10 v11 wr => MostIn wB V xs v k v9 v10 v11 wr) (fun _ _ v11 _ => k - (intOf v11).toNat)
            case atStart => exact Hst.out
            case round =>
              obtain ⟨i, p, g2, c2, l2, rfl, hp, HP, hi6, rfl, HL2, rfl, ho2, hb2⟩ := hrel
              obtain ⟨wC, rfl⟩ : ∃ wC : World, wC = wr := ⟨_, rfl⟩
              have Ho2 := Lib.hid ho2
              have Hb2 := Lib.hid hb2
              have hwC := hb2.size
              have XC := Lib.hid (XB.out.below hb2)
              clear ho2 hb2
              by_cases hlt3 : p < k
              · obtain ⟨b, off, he, hat⟩ := XC.out.2.2.2 (by omega)
                cases he
                have hpx : p < xs.length := by have := Hn.out; omega
                have y0 := hat p hpx
                rw [Nat.zero_add] at y0
                obtain ⟨y, hy⟩ : ∃ y, y = xs.getD p 0 := ⟨_, rfl⟩
                rw [← hy] at y0
                have Hy := Lib.hid hy
                have hgC : g < wC.heap.size := hat.lt (by intro h9; rw [h9] at hpx; simp at hpx)
                have hgB : g < wB.heap.size := XB.out.2.2.2 (by omega) |> fun ⟨b2, o2, he2, hat2⟩ => by cases he2; exact hat2.lt (by intro h9; rw [h9] at hpx; simp at hpx)
                have hi5 : i + 1 ≤ 6 := by have := HP.out; omega
                clear hat hy
                cases l2 with
                | false =>
                  go_wp2_with (first
                    | (at_builtin; refine wpList_append_own _ rfl (.tmp 67) (.tmp 69) 23 rfl wB.heap.size 3 i0 (.int .i64 0) 1 8 Try.underlying23 hi hz0 hz1 hz2 rfl (by decide) _ i (ints (List.replicate i V)) rfl (Ho2.out.alloc _) ⟨wC.heap.size, 0, none⟩ 1 1 [.int .i64 V] rfl rfl (cell_one_new _ _ _) (ints_oneCell _ [V]) (by unfold maxLen; omega) (by omega) (by simp; omega) ?_; intro v3 wD ho3 hg3 _; obtain ⟨g6, c6, rfl⟩ := Joins.ownsRow_form ho3 (by omega); have hbD := (Hb2.out.alloc hwC (.cells #[.int .i64 V] 3)).grown hg3 (by simp; omega) (fun r e => (Ho2.out.lt r e).1); have y1 := (hbD.cell (p := ⟨g, p, none⟩) hgB).trans ((Hb2.out.cell (p := ⟨g, p, none⟩) hgB).symm.trans y0)))
                  have ho4 : wD.ownsRow wB.heap.size 3 1 (.slice (some ⟨g6, 0, none⟩) (i + 1) c6) (i + 1) (ints (List.replicate (i + 1) V)) := by
                    rw [List.replicate_succ', show ints (List.replicate i V ++ [V]) = ints (List.replicate i V) ++ [.int .i64 V] by simp [ints]]
                    exact ho3
                  have hfin : ∀ l3 : Bool, (l3 = true ↔ false = true ∧ y = 0) → MostIn wB V xs v k (.slice (some ⟨g6, 0, none⟩) (i + 1) c6) (.bool l3) (.int .i64 ((p : Int) + 1)) wD := by
                    intro l3 h3
                    refine ⟨i + 1, p + 1, g6, c6, l3, rfl, by omega, Lib.hid (by have := HP.out; omega), hi5, rfl, Lib.hid ?_, rfl, ho4, hbD⟩
                    rw [h3, HL2.out]
                    constructor
                    · rintro ⟨h4, h5⟩ j h6 h7
                      by_cases hjp : j = p
                      · subst hjp; rw [← Hy.out]; exact h5
                      · exact h4 j h6 (by omega)
                    · intro h4
                      exact ⟨fun j h6 h7 => h4 j h6 (by omega), by rw [Hy.out]; exact h4 p (by have := HP.out; omega) (by omega)⟩
                  have Hfin := Lib.hid hfin
                  clear ho3 hg3 ho4 hbD hfin
                  have HF := Lib.hid (Hfin.out false (by simp))
                  go_wp2_with fail
                  go_roundw
                  case measure => exact next_measure hlt3
                  case rel => exact HF.out
                | true =>
                  go_wp2_with (first
                    | (at_builtin; refine wpList_append_own _ rfl (.tmp 67) (.tmp 69) 23 rfl wB.heap.size 3 i0 (.int .i64 0) 1 8 Try.underlying23 hi hz0 hz1 hz2 rfl (by decide) _ i (ints (List.replicate i V)) rfl (Ho2.out.alloc _) ⟨wC.heap.size, 0, none⟩ 1 1 [.int .i64 V] rfl rfl (cell_one_new _ _ _) (ints_oneCell _ [V]) (by unfold maxLen; omega) (by omega) (by simp; omega) ?_; intro v3 wD ho3 hg3 _; obtain ⟨g6, c6, rfl⟩ := Joins.ownsRow_form ho3 (by omega); have hbD := (Hb2.out.alloc hwC (.cells #[.int .i64 V] 3)).grown hg3 (by simp; omega) (fun r e => (Ho2.out.lt r e).1); have y1 := (hbD.cell (p := ⟨g, p, none⟩) hgB).trans ((Hb2.out.cell (p := ⟨g, p, none⟩) hgB).symm.trans y0)))
                  have ho4 : wD.ownsRow wB.heap.size 3 1 (.slice (some ⟨g6, 0, none⟩) (i + 1) c6) (i + 1) (ints (List.replicate (i + 1) V)) := by
                    rw [List.replicate_succ', show ints (List.replicate i V ++ [V]) = ints (List.replicate i V) ++ [.int .i64 V] by simp [ints]]
                    exact ho3
                  have hfin : ∀ l3 : Bool, (l3 = true ↔ true = true ∧ y = 0) → MostIn wB V xs v k (.slice (some ⟨g6, 0, none⟩) (i + 1) c6) (.bool l3) (.int .i64 ((p : Int) + 1)) wD := by
                    intro l3 h3
                    refine ⟨i + 1, p + 1, g6, c6, l3, rfl, by omega, Lib.hid (by have := HP.out; omega), hi5, rfl, Lib.hid ?_, rfl, ho4, hbD⟩
                    rw [h3, HL2.out]
                    constructor
                    · rintro ⟨h4, h5⟩ j h6 h7
                      by_cases hjp : j = p
                      · subst hjp; rw [← Hy.out]; exact h5
                      · exact h4 j h6 (by omega)
                    · intro h4
                      exact ⟨fun j h6 h7 => h4 j h6 (by omega), by rw [Hy.out]; exact h4 p (by have := HP.out; omega) (by omega)⟩
                  have Hfin := Lib.hid hfin
                  clear ho3 hg3 ho4 hbD hfin
                  have HF := Lib.hid (Hfin.out (y == 0) (by simp))
                  go_wp2_with fail
                  go_roundw
                  case measure => exact next_measure hlt3
                  case rel => exact HF.out
              · have hie : i = xs.length - 1 - v := by have := HP.out; have := Hn.out; omega
                have hvx : v < xs.length := by have := Hn.out; omega
                have hmd := fun hx => most_drop (v := v) HB.out hV0' hV9 HU.out hvx hx
                have hlast : l2 = true → ∀ j, v < j → j < xs.length → xs.getD j 0 = 0 := fun h j h1 h2 => HL2.out.1 h j h1 (by have := Hn.out; omega)
                have kd := Lib.hid (impl_RowDrop (some ⟨g, 0, none⟩) (some ⟨g2, 0, none⟩) k c i c2 xs v (List.replicate i V) wC XC.out (Sl.of_own Ho2.out) (by omega) (by omega))
                have kM := Lib.hid (fun (a : Option Addr) (n c : Nat) (ys : List Int) (wx : World) (hs : Sl wx a n c ys) => impl_RowMost a n c ys V wx hs (by omega) (by omega))
                rw [← hie, ← Hz.out] at hmd
                have hno : xs.getD v 0 = 0 → dropOk xs v (List.replicate i V) = false := fun h => dropOk_2 (dropPl_false (fun h9 => h9.2 (by rw [Int.toNat_natCast]; exact h)))
                have hnr := fun h => dropRow_no (xs := xs) (ys := List.replicate i V) (V := (v : Int)) h
                have hrl := dropRow_len xs v (List.replicate i V)
                obtain ⟨r, hr⟩ : ∃ r, r = dropRow xs v (List.replicate i V) := ⟨_, rfl⟩
                obtain ⟨o, ho⟩ : ∃ o, o = dropOk xs v (List.replicate i V) := ⟨_, rfl⟩
                unfold OrdOkPost at kd
                rw [← hr, ← ho] at kd
                rw [← hr, ← ho] at hmd hnr
                rw [← ho] at hno
                rw [← hr] at hrl
                have hMn : mostI [] V = -1 := mostI_1 rfl
                clear hr ho hie hvx
                by_cases hx : xs.getD v 0 = 0
                · obtain rfl := hno hx
                  obtain rfl := hnr rfl
                  clear hmd hlast hno hnr hx
                  go_wp2_with fail
                  refine (kd.out).mono ?_
                  rintro ee w5 ⟨aR, cR, rfl, ho5, hb5⟩
                  have k6 := Lib.hid (kM.out _ _ _ _ w5 (Sl.of_own ho5))
                  rw [hMn] at k6
                  have Hb5 := Lib.hid (Hb2.out.trans (hb5.mono hwC))
                  clear ho5 hb5
                  go_wp2_with fail
                  refine (k6.out).mono ?_
                  rintro ee w6 ⟨rfl, hb6⟩
                  have Hb6 := Lib.hid (HbB.out.trans ((Hb5.out.trans (hb6.mono Hb5.out.size)).mono HbB.out.size))
                  clear hb6
                  go_wp2_with fail
                  go_roundw
                  case measure => exact next_measure hlt2
                  case rel => exact ⟨v + 1, by omega, by go_num, Hb6.out⟩
                · obtain ⟨rfl, hm0, hm1, hm2⟩ := hmd hx
                  obtain ⟨m, hm⟩ : ∃ m, m = mostI r V := ⟨_, rfl⟩
                  rw [← hm] at hm0 hm1 hm2
                  have Hm := Lib.hid hm
                  have hm2' := fun h => hm2 (hlast h)
                  obtain ⟨z1, hz1'⟩ : ∃ z1, z1 = z - 1 := ⟨_, rfl⟩
                  have hj1 : IntKind.i64.wrap (z - 1) = z1 := by rw [IntWalk.i64_in _ (by omega)]; omega
                  have hj2 : z - 1 = z1 := by omega
                  have hj3 : IntKind.i64.wrap z1 = z1 := IntWalk.i64_in _ (by omega)
                  have hmn : ¬ m < 0 := by omega
                  have hmz : ¬ z ≤ m := by omega
                  clear hmd hlast hno hnr hx hm2 hm hz1'
                  go_wp2_with fail
                  refine (kd.out).mono ?_
                  rintro ee w5 ⟨aR, cR, rfl, ho5, hb5⟩
                  have k6 := Lib.hid (kM.out _ _ _ _ w5 (Sl.of_own ho5))
                  rw [← Hm.out] at k6
                  have Hb5 := Lib.hid (Hb2.out.trans (hb5.mono hwC))
                  clear ho5 hb5
                  cases l2 with
                  | false =>
                    go_wp2_with fail
                    refine (k6.out).mono ?_
                    rintro ee w6 ⟨rfl, hb6⟩
                    have Hb6 := Lib.hid (HbB.out.trans ((Hb5.out.trans (hb6.mono Hb5.out.size)).mono HbB.out.size))
                    clear hb6
                    go_wp2_with fail
                    go_roundw
                    case measure => exact next_measure hlt2
                    case rel => exact ⟨v + 1, by omega, by go_num, Hb6.out⟩
                  | true =>
                    have hme : (m != z1) = false := by have := hm2' rfl; simp; omega
                    go_wp2_with fail
                    refine (k6.out).mono ?_
                    rintro ee w6 ⟨rfl, hb6⟩
                    have Hb6 := Lib.hid (HbB.out.trans ((Hb5.out.trans (hb6.mono Hb5.out.size)).mono HbB.out.size))
                    clear hb6
                    go_wp2_with fail
                    go_roundw
                    case measure => exact next_measure hlt2
                    case rel => exact ⟨v + 1, by omega, by go_num, Hb6.out⟩
          · obtain rfl : v = k := by omega
            have hzl := HZ.out
            go_wp2_with fail
            go_ret
            exact ⟨by simp, HtB.out⟩

end Go.Proofs.Ytnacndlfjlibmaa
