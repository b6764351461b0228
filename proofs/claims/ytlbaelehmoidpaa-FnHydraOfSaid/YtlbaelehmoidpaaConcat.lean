/- slices.Concat of three slices of terms. -/
import Derived.Test.YtlbaelehmoidpaaSlices
namespace Go.Proofs.Ytlbaelehmoidpaa
set_option maxRecDepth 100000
open Go.RowKit

/-- A slice of cells that can be read, or nil. -/
def Rd (w : World) (a : Option Addr) (n c : Nat) (l : List Value) : Prop :=
  l.length = n * 2 ∧ (∀ u ∈ l, u.oneCell' = true) ∧ ((a = none ∧ n = 0 ∧ c = 0) ∨ ∃ b o, a = some ⟨b, o, none⟩ ∧ ∀ j u, l[j]? = some u → w.cell? ((⟨b, o, none⟩ : Addr).add j) = some u)

theorem Rd.below {w w' : World} {a : Option Addr} {n c : Nat} {l : List Value} (h : Rd w a n c l) (hb : Below w.heap.size w w') : Rd w' a n c l := by
  refine ⟨h.1, h.2.1, ?_⟩
  rcases h.2.2 with h1 | ⟨b, o, h1, h2⟩
  · exact .inl h1
  · refine .inr ⟨b, o, h1, fun j u hj => ?_⟩
    have h3 := h2 j u hj
    have h4 := World.block_lt_of_cell? w _ h3
    rw [hb.cell h4]
    exact h3

theorem own_shape {w : World} {B e n size : Nat} {v : Value} {xs : List Value} (h : w.ownsRow B e size v n xs) : ∃ a c, v = .slice a n c := by
  rcases h.2 with ⟨h1, h2⟩ | ⟨g, cap, cur, h0, _⟩
  · exact ⟨none, 0, by rw [h1, h2]⟩
  · exact ⟨_, cap, h0⟩

def cat3 {α : Type} (x0 x1 x2 x3 : α) : Nat → α
  | 0 => x0
  | 1 => x1
  | 2 => x2
  | _ => x3

def CatPost (w : World) (n : Nat) (l : List Value) (e : Ending) (w' : World) : Prop :=
  ∃ a c', e = .returned (.slice a n c') ∧ w'.ownsRow w.heap.size 57 2 (.slice a n c') n l ∧ Below w.heap.size w w'

def CatRel (w : World) (p1 p2 p3 : Nat) (q1 q2 q3 : List Value) (gk : Nat) (v6 v27 : Value) (wr : World) : Prop :=
  ∃ (i : Nat) (a : Option Addr) (c : Nat), v27 = .int .i64 i ∧ gk + i = 3 ∧ v6 = .slice a (cat3 0 p1 p2 p3 i) c ∧
    wr.ownsRow w.heap.size 57 2 v6 (cat3 0 p1 p2 p3 i) (cat3 [] q1 q2 q3 i) ∧ Below w.heap.size w wr

set_option maxHeartbeats 4000000 in
theorem concat3_any (g c : Nat) (a1 a2 a3 : Option Addr) (n1 c1 n2 c2 n3 c3 : Nat) (l1 l2 l3 : List Value) (w : World)
    (h1 : w.cell? ⟨g, 0, none⟩ = some (.slice a1 n1 c1)) (h2 : w.cell? ⟨g, 1, none⟩ = some (.slice a2 n2 c2)) (h3 : w.cell? ⟨g, 2, none⟩ = some (.slice a3 n3 c3))
    (r1 : Rd w a1 n1 c1 l1) (r2 : Rd w a2 n2 c2 l2) (r3 : Rd w a3 n3 c3 l3) (b1 : n1 ≤ 10000) (b2 : n2 ≤ 10000) (b3 : n3 ≤ 10000) :
    Calls Try.prog 86 #[.slice (some ⟨g, 0, none⟩) 3 c] w (CatPost w (n1 + n2 + n3) (l1 ++ l2 ++ l3)) := by
  obtain ⟨i0, hi, hz0, hz1, hz2⟩ := info_parts info_term
  have R1 := Lib.hid r1
  have R2 := Lib.hid r2
  have R3 := Lib.hid r3
  have hgl : g < w.heap.size := World.block_lt_of_cell? w _ h1
  obtain ⟨p2, hp2⟩ : ∃ p2, p2 = n1 + n2 := ⟨_, rfl⟩
  obtain ⟨p3, hp3⟩ : ∃ p3, p3 = n1 + n2 + n3 := ⟨_, rfl⟩
  obtain ⟨q3, hq3⟩ : ∃ q3, q3 = l1 ++ l2 ++ l3 := ⟨_, rfl⟩
  rw [← hp3, ← hq3]
  have hpb2 : p2 ≤ 20000 := by omega
  have hpb3 : p3 ≤ 30000 := by omega
  have HP2 := Lib.hid hp2
  have HP3 := Lib.hid hp3
  have HQ3 := Lib.hid hq3
  have kg := Lib.hid (grow_any p3 w (by omega))
  clear r1 r2 r3 hp2 hp3 hq3
  go_enter Try.func86, Try.ntmps86
  go_wp2_with fail
  go_loopg [3, 11] 3 (fun gk v3 v11 wr => w = wr ∧ ∃ i : Nat, v11 = .int .i64 i ∧ gk + i = 3 ∧ v3 = .int .i64 (cat3 0 n1 p2 p3 i : Nat))
  case atStart => exact ⟨rfl, 0, rfl, rfl, rfl⟩
  case round =>
    obtain ⟨rfl, i, rfl, hgk, rfl⟩ := hrel
    have Hgk := Lib.hid hgk
    have hcase : i = 0 ∨ i = 1 ∨ i = 2 ∨ i = 3 := by omega
    clear hgk
    obtain ⟨s, hs⟩ : ∃ s, s = cat3 0 n1 p2 p3 i := ⟨_, rfl⟩
    have hsb : s ≤ 30000 := by
      rw [hs]
      have h2 := HP2.out
      have h3 := HP3.out
      rcases hcase with rfl | rfl | rfl | rfl <;> simp [cat3] <;> omega
    rw [← hs]
    have Hs := Lib.hid hs
    clear hs
    rcases hcase with rfl | rfl | rfl | rfl
    · go_wp2_with fail
      go_roundg (gk - 1)
      case measure => have := Hgk.out; omega
      case rel => exact ⟨rfl, 1, rfl, by have := Hgk.out; omega, congrArg (Value.int .i64) (by have h1 : s = 0 := Hs.out; show _ = ((n1 : Nat) : Int); omega)⟩
    · go_wp2_with fail
      go_roundg (gk - 1)
      case measure => have := Hgk.out; omega
      case rel => exact ⟨rfl, 2, rfl, by have := Hgk.out; omega, congrArg (Value.int .i64) (by have h1 : s = n1 := Hs.out; show _ = ((p2 : Nat) : Int); have := HP2.out; omega)⟩
    · go_wp2_with fail
      go_roundg (gk - 1)
      case measure => have := Hgk.out; omega
      case rel => exact ⟨rfl, 3, rfl, by have := Hgk.out; omega, congrArg (Value.int .i64) (by have h1 : s = p2 := Hs.out; show _ = ((p3 : Nat) : Int); have := HP2.out; have := HP3.out; omega)⟩
    · obtain rfl : p3 = s := Hs.out.symm
      go_wp2_with fail
      refine (kg.out).mono ?_
      rintro ee w1 ⟨a, cc, rfl, ho1, hb1⟩
      have hfin : CatRel w n1 p2 p3 l1 (l1 ++ l2) q3 3 (.slice a 0 cc) (.int .i64 (0 : Nat)) w1 := ⟨0, a, cc, rfl, rfl, rfl, ho1, hb1⟩
      have Hfin := Lib.hid hfin
      clear ho1 hb1 hfin
      go_wp2_with fail
      go_loopg [6, 27] 3 (fun gk v6 v27 wr => CatRel w n1 p2 p3 l1 (l1 ++ l2) q3 gk v6 v27 wr)
      case atStart => exact Hfin.out
      case round =>
        obtain ⟨i, a, cc, rfl, hgk, rfl, ho, hb⟩ := hrel
        have Hgk2 := Lib.hid hgk
        have hcase : i = 0 ∨ i = 1 ∨ i = 2 ∨ i = 3 := by omega
        have Hb := Lib.hid hb
        have hws : w.heap.size ≤ wr.heap.size := hb.size
        have c1 := (hb.cell (p := ⟨g, 0, none⟩) hgl).trans h1
        have c2' := (hb.cell (p := ⟨g, 1, none⟩) hgl).trans h2
        have c3' := (hb.cell (p := ⟨g, 2, none⟩) hgl).trans h3
        clear hgk hb
        rcases hcase with rfl | rfl | rfl | rfl
        · have Ho := Lib.hid (show wr.ownsRow w.heap.size 57 2 (.slice a 0 cc) 0 [] from ho)
          have e0 : cat3 0 n1 p2 p3 0 = 0 := rfl
          rw [e0]
          clear ho e0
          have hR := R1.out.below Hb.out
          have Hl := Lib.hid (show (l1).length = n1 * 2 from hR.1)
          have H1 := Lib.hid hR.2.1
          rcases hR.2.2 with ⟨ha, hn, hcc⟩ | ⟨b, o, ha, hrd⟩
          · have hl0 : l1 = [] := List.length_eq_zero_iff.1 (by rw [Hl.out, hn])
            have hfin : CatRel w n1 p2 p3 l1 (l1 ++ l2) q3 (gk - 1) (.slice a 0 cc) (.int .i64 (1 : Nat)) wr :=
              ⟨1, a, cc, rfl, by have := Hgk2.out; omega, by show Value.slice a 0 cc = .slice a n1 cc; rw [show n1 = 0 from by omega], by
                show wr.ownsRow w.heap.size 57 2 (.slice a 0 cc) n1 l1
                have e1 : n1 = 0 := by omega
                have e2 : [] ++ l1 = l1 := by simp
                rw [e1, ← e2, hl0, List.append_nil]; exact Ho.out, Hb.out⟩
            have Hfin := Lib.hid hfin
            obtain rfl := ha
            obtain rfl := hcc
            subst hn
            clear hfin hl0 hR
            go_wp2_with (first
              | (at_builtin; refine wpList_append_own_none rfl (.tmp 31) (.tmp 32) 54 rfl w.heap.size 57 i0 2 Try.underlying54 hi _ 0 [] rfl Ho.out rfl ?_))
            go_roundg (gk - 1)
            case measure => have := Hgk2.out; omega
            case rel => exact Hfin.out
          · have Hrd := Lib.hid hrd
            obtain rfl := ha
            clear hR hrd
            go_wp2_with (first
              | (at_builtin; refine wpList_append_own _ rfl (.tmp 31) (.tmp 32) 54 rfl w.heap.size 57 i0 (.agg #[.int .i64 0, .slice none 0 0]) 2 32 Try.underlying54 hi hz0 hz1 hz2 rfl (by decide) _ 0 [] rfl Ho.out ⟨b, o, none⟩ n1 _ l1 rfl Hl.out Hrd.out H1.out (by unfold maxLen; omega) (by omega) (by omega) ?_; intro v1 w2 ho2 hg2 _))
            obtain ⟨a2, cc2, rfl⟩ := own_shape ho2
            have hfin : CatRel w n1 p2 p3 l1 (l1 ++ l2) q3 (gk - 1) (.slice a2 (0 + n1) cc2) (.int .i64 (1 : Nat)) w2 :=
              ⟨1, a2, cc2, rfl, by have := Hgk2.out; omega, congrArg (fun m => Value.slice a2 m cc2) (show 0 + n1 = n1 from by omega), by
                show w2.ownsRow w.heap.size 57 2 (.slice a2 (0 + n1) cc2) n1 l1
                have e1 : 0 + n1 = n1 := by omega
                have h9 := ho2
                rw [e1] at h9 ⊢
                have e2 : [] ++ l1 = l1 := by simp
                rw [← e2]; exact h9, Hb.out.grown hg2 hws (fun r e => (Ho.out.lt r e).1)⟩
            have Hfin := Lib.hid hfin
            clear hfin ho2 hg2
            go_wp2_with fail
            go_roundg (gk - 1)
            case measure => have := Hgk2.out; omega
            case rel => exact Hfin.out
        · have Ho := Lib.hid (show wr.ownsRow w.heap.size 57 2 (.slice a n1 cc) n1 l1 from ho)
          have e0 : cat3 0 n1 p2 p3 1 = n1 := rfl
          rw [e0]
          clear ho e0
          have hR := R2.out.below Hb.out
          have Hl := Lib.hid (show (l2).length = n2 * 2 from hR.1)
          have H1 := Lib.hid hR.2.1
          rcases hR.2.2 with ⟨ha, hn, hcc⟩ | ⟨b, o, ha, hrd⟩
          · have hl0 : l2 = [] := List.length_eq_zero_iff.1 (by rw [Hl.out, hn])
            have hfin : CatRel w n1 p2 p3 l1 (l1 ++ l2) q3 (gk - 1) (.slice a n1 cc) (.int .i64 (2 : Nat)) wr :=
              ⟨2, a, cc, rfl, by have := Hgk2.out; omega, by show Value.slice a n1 cc = .slice a p2 cc; rw [show p2 = n1 from by have := HP2.out; omega], by
                show wr.ownsRow w.heap.size 57 2 (.slice a n1 cc) p2 (l1 ++ l2)
                have e1 : p2 = n1 := by have := HP2.out; omega
                have e2 : l1 ++ l2 = (l1 ++ l2) := rfl
                rw [e1, ← e2, hl0, List.append_nil]; exact Ho.out, Hb.out⟩
            have Hfin := Lib.hid hfin
            obtain rfl := ha
            obtain rfl := hcc
            subst hn
            clear hfin hl0 hR
            go_wp2_with (first
              | (at_builtin; refine wpList_append_own_none rfl (.tmp 31) (.tmp 32) 54 rfl w.heap.size 57 i0 2 Try.underlying54 hi _ n1 l1 rfl Ho.out rfl ?_))
            go_roundg (gk - 1)
            case measure => have := Hgk2.out; omega
            case rel => exact Hfin.out
          · have Hrd := Lib.hid hrd
            obtain rfl := ha
            clear hR hrd
            go_wp2_with (first
              | (at_builtin; refine wpList_append_own _ rfl (.tmp 31) (.tmp 32) 54 rfl w.heap.size 57 i0 (.agg #[.int .i64 0, .slice none 0 0]) 2 32 Try.underlying54 hi hz0 hz1 hz2 rfl (by decide) _ n1 l1 rfl Ho.out ⟨b, o, none⟩ n2 _ l2 rfl Hl.out Hrd.out H1.out (by unfold maxLen; omega) (by omega) (by omega) ?_; intro v1 w2 ho2 hg2 _))
            obtain ⟨a2, cc2, rfl⟩ := own_shape ho2
            have hfin : CatRel w n1 p2 p3 l1 (l1 ++ l2) q3 (gk - 1) (.slice a2 (n1 + n2) cc2) (.int .i64 (2 : Nat)) w2 :=
              ⟨2, a2, cc2, rfl, by have := Hgk2.out; omega, congrArg (fun m => Value.slice a2 m cc2) (show n1 + n2 = p2 from by have := HP2.out; omega), by
                show w2.ownsRow w.heap.size 57 2 (.slice a2 (n1 + n2) cc2) p2 (l1 ++ l2)
                have e1 : n1 + n2 = p2 := by have := HP2.out; omega
                have h9 := ho2
                rw [e1] at h9 ⊢
                have e2 : l1 ++ l2 = (l1 ++ l2) := rfl
                rw [← e2]; exact h9, Hb.out.grown hg2 hws (fun r e => (Ho.out.lt r e).1)⟩
            have Hfin := Lib.hid hfin
            clear hfin ho2 hg2
            go_wp2_with fail
            go_roundg (gk - 1)
            case measure => have := Hgk2.out; omega
            case rel => exact Hfin.out
        · have Ho := Lib.hid (show wr.ownsRow w.heap.size 57 2 (.slice a p2 cc) p2 (l1 ++ l2) from ho)
          have e0 : cat3 0 n1 p2 p3 2 = p2 := rfl
          rw [e0]
          clear ho e0
          have hR := R3.out.below Hb.out
          have Hl := Lib.hid (show (l3).length = n3 * 2 from hR.1)
          have H1 := Lib.hid hR.2.1
          rcases hR.2.2 with ⟨ha, hn, hcc⟩ | ⟨b, o, ha, hrd⟩
          · have hl0 : l3 = [] := List.length_eq_zero_iff.1 (by rw [Hl.out, hn])
            have hfin : CatRel w n1 p2 p3 l1 (l1 ++ l2) q3 (gk - 1) (.slice a p2 cc) (.int .i64 (3 : Nat)) wr :=
              ⟨3, a, cc, rfl, by have := Hgk2.out; omega, by show Value.slice a p2 cc = .slice a p3 cc; rw [show p3 = p2 from by have := HP2.out; have := HP3.out; omega], by
                show wr.ownsRow w.heap.size 57 2 (.slice a p2 cc) p3 q3
                have e1 : p3 = p2 := by have := HP2.out; have := HP3.out; omega
                have e2 : (l1 ++ l2) ++ l3 = q3 := HQ3.out.symm
                rw [e1, ← e2, hl0, List.append_nil]; exact Ho.out, Hb.out⟩
            have Hfin := Lib.hid hfin
            obtain rfl := ha
            obtain rfl := hcc
            subst hn
            clear hfin hl0 hR
            go_wp2_with (first
              | (at_builtin; refine wpList_append_own_none rfl (.tmp 31) (.tmp 32) 54 rfl w.heap.size 57 i0 2 Try.underlying54 hi _ p2 (l1 ++ l2) rfl Ho.out rfl ?_))
            go_roundg (gk - 1)
            case measure => have := Hgk2.out; omega
            case rel => exact Hfin.out
          · have Hrd := Lib.hid hrd
            obtain rfl := ha
            clear hR hrd
            go_wp2_with (first
              | (at_builtin; refine wpList_append_own _ rfl (.tmp 31) (.tmp 32) 54 rfl w.heap.size 57 i0 (.agg #[.int .i64 0, .slice none 0 0]) 2 32 Try.underlying54 hi hz0 hz1 hz2 rfl (by decide) _ p2 (l1 ++ l2) rfl Ho.out ⟨b, o, none⟩ n3 _ l3 rfl Hl.out Hrd.out H1.out (by unfold maxLen; omega) (by omega) (by omega) ?_; intro v1 w2 ho2 hg2 _))
            obtain ⟨a2, cc2, rfl⟩ := own_shape ho2
            have hfin : CatRel w n1 p2 p3 l1 (l1 ++ l2) q3 (gk - 1) (.slice a2 (p2 + n3) cc2) (.int .i64 (3 : Nat)) w2 :=
              ⟨3, a2, cc2, rfl, by have := Hgk2.out; omega, congrArg (fun m => Value.slice a2 m cc2) (show p2 + n3 = p3 from by have := HP2.out; have := HP3.out; omega), by
                show w2.ownsRow w.heap.size 57 2 (.slice a2 (p2 + n3) cc2) p3 q3
                have e1 : p2 + n3 = p3 := by have := HP2.out; have := HP3.out; omega
                have h9 := ho2
                rw [e1] at h9 ⊢
                have e2 : (l1 ++ l2) ++ l3 = q3 := HQ3.out.symm
                rw [← e2]; exact h9, Hb.out.grown hg2 hws (fun r e => (Ho.out.lt r e).1)⟩
            have Hfin := Lib.hid hfin
            clear hfin ho2 hg2
            go_wp2_with fail
            go_roundg (gk - 1)
            case measure => have := Hgk2.out; omega
            case rel => exact Hfin.out
        · have Ho := Lib.hid ho
          clear ho
          have e3 : cat3 0 n1 p2 p3 3 = p3 := rfl
          rw [e3]
          clear e3
          go_wp2_with fail
          go_ret
          exact ⟨a, cc, rfl, Ho.out, Hb.out⟩

end Go.Proofs.Ytlbaelehmoidpaa
