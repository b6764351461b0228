/- OrdNumber and OrdKind: the program's and the model's answers. -/
import Derived.Test.YthalogciiochfaaFn1
namespace Go.Proofs.Ythalogciiochfaa
set_option maxRecDepth 100000
open Go.RowKit

theorem T.num_one (n : Int) (r : T) : (T.c n .z r).num = n := rfl
theorem T.num_more (n m : Int) (e f r : T) : (T.c n (.c m e f) r).num = -1 := rfl

theorem numberOf_any (b off n cap : Nat) (t : T) (w : World) (hn : n = t.enc.length) (hb : n ≤ 1000000000000) (hc : n ≤ cap) (hm : cap ≤ maxLen) (hat : At w b off t.enc) :
    Calls Try.prog 51 #[.slice (some ⟨b, off, none⟩) n cap] w fun e w' => e = .returned (.int .i64 t.num) ∧ Below w.heap.size w w' := by
  have k := Lib.hid (termsOf_any b off n cap t.enc t w hn.symm hb hc hm hat rfl)
  have hcl : t.cnt ≤ 1000000000000 := by have := T.cnt_le t; have := T.enc_len t; omega
  clear hn hat
  go_enter Try.func51, Try.ntmps51
  go_wp2_with fail
  refine (k.out).mono ?_
  rintro ee w1 ⟨cs, rfl, ho, hT, hb1⟩
  obtain ⟨g, hg⟩ : ∃ g, g = w.heap.size := ⟨_, rfl⟩
  rw [← hg] at ho ⊢
  have Hb1 := Lib.hid hb1
  have Hg := Lib.hid hg
  clear hb1 hg
  cases t with
  | z =>
    have h0 : ((T.z.cnt : Nat) : Int) = 0 := rfl
    have h1 : (T.z.cnt : Nat) = 0 := rfl
    go_wp2_with fail
    go_ret
    exact ⟨rfl, Hb1.out⟩
  | c m e r =>
    have hp : 0 < (T.c m e r).cnt := by simp [T.cnt]
    have hne : (((T.c m e r).cnt : Int) == 0) = false := by simp [T.cnt]; omega
    obtain ⟨be, oe, ce, p1, p2, p3, p4, p5⟩ := hT.pick (d := .z) (k := 0) rfl rfl
    have x1 : w1.cell? ⟨g, 0, none⟩ = some (.int .i64 m) := (ho.cellAt 0 (by omega)).trans p1
    have x2 : w1.cell? ⟨g, 1, none⟩ = some (.slice (some ⟨be, oe, none⟩) e.enc.length ce) := (ho.cellAt 1 (by omega)).trans p2
    have k2 := Lib.hid (isZero_any be oe e.enc.length ce (e.cnt : Int) w1 (by rw [T.enc_len]; omega) p3.head)
    clear p1 p2 p3 ho hT
    cases e with
    | z =>
      have h0 : (((T.z.cnt : Nat) : Int) == 0) = true := rfl
      go_wp2_with fail
      refine (k2.out).mono ?_
      rintro ee w' ⟨rfl, rfl⟩
      go_wp2_with fail
      go_ret
      exact ⟨rfl, Hb1.out⟩
    | c q f u =>
      have h0 : ((((T.c q f u).cnt : Nat) : Int) == 0) = false := by simp [T.cnt]; omega
      go_wp2_with fail
      refine (k2.out).mono ?_
      rintro ee w' ⟨rfl, rfl⟩
      go_wp2_with fail
      go_ret
      exact ⟨rfl, Hb1.out⟩

theorem impl_OrdNumber (ao : Option Addr) (len cap : Nat) (xs : List Int) (w : World) (h : Sl w ao len cap xs) :
    Calls Try.prog 15 #[.slice ao len cap] w fun e w' => e = .returned (.int .i64 (T.numRow xs)) ∧ Below w.heap.size w w' := by
  rcases vld_tf xs with h1 | h1
  · have k1 := Lib.hid (impl_valid ao len cap xs w h h1)
    obtain ⟨b, off, t, rfl, rfl, hs, hos, hat, hn, hl, hp, hc, hm⟩ := h.valid h1
    have hr : T.numRow t.enc = t.num := by rw [T.numRow, if_pos h1, hos]
    rw [hr]
    have HA := Lib.hid hat
    have HN := Lib.hid hn
    clear h1 hos hs hat hn hr
    go_enter Try.func15, Try.ntmps15
    go_wp2_with fail
    refine (k1.out).mono ?_
    rintro ee w1 ⟨rfl, hb1⟩
    have Hb1 := Lib.hid hb1
    have k2 := Lib.hid (numberOf_any b off len cap t w1 HN.out (by omega) hc hm (HA.out.below hb1 (HA.out.lt (T.enc_ne t))))
    clear hb1
    go_wp2_with fail
    refine (k2.out).mono ?_
    rintro ee w2 ⟨rfl, hb2⟩
    have Hb2 := Lib.hid (Hb1.out.trans (hb2.mono Hb1.out.size))
    clear hb2
    go_wp2_with fail
    go_ret
    exact ⟨rfl, Hb2.out⟩
  · have k1 := Lib.hid (impl_valid ao len cap xs w h h1)
    have hr : T.numRow xs = -1 := by rw [T.numRow, if_neg (by rw [h1]; simp)]
    rw [hr]
    clear h1 hr
    go_enter Try.func15, Try.ntmps15
    go_wp2_with fail
    refine (k1.out).mono ?_
    rintro ee w1 ⟨rfl, hb1⟩
    have Hb1 := Lib.hid hb1
    clear hb1
    go_wp2_with fail
    go_ret
    exact ⟨rfl, Hb1.out⟩

end Go.Proofs.Ythalogciiochfaa
