/- OrdKind: the program's and the model's answers. -/
import Derived.Test.YtlbaelehmoidpaaFn2
namespace Go.Proofs.Ytlbaelehmoidpaa
set_option maxRecDepth 100000
open Go.RowKit

theorem kindOf_any (b off n cap : Nat) (t : T) (w : World) (hn : n = t.enc.length) (hb : n ≤ 1000000000000) (hc : n ≤ cap) (hm : cap ≤ maxLen) (hat : At w b off t.enc) :
    Calls Try.prog 84 #[.slice (some ⟨b, off, none⟩) n cap] w fun e w' => e = .returned (.int .i64 t.kind) ∧ Below w.heap.size w w' := by
  have k2 := Lib.hid (termsOf_any b off n cap t.enc t w hn.symm hb hc hm hat rfl)
  have hcl : t.cnt ≤ 1000000000000 := by have := T.cnt_le t; have := T.enc_len t; omega
  clear hn hat
  go_enter Try.func84, Try.ntmps84
  go_wp2_with fail
  refine (k2.out).mono ?_
  rintro ee w2 ⟨cs, rfl, ho, hT, hb2⟩
  have Hb2 := Lib.hid hb2
  obtain ⟨g, hg⟩ : ∃ g, g = w.heap.size := ⟨_, rfl⟩
  rw [← hg] at ho ⊢
  have Hg := Lib.hid hg
  clear hb2 hg
  by_cases hz : t.cnt = 0
  · have hk : t.kind = 0 := by rw [T.cnt_zero hz]; rfl
    have Hk := Lib.hid hk
    have h0 : ((t.cnt : Int) == 0) = true := by rw [hz]; rfl
    clear hz hk
    go_wp2_with fail
    go_ret
    exact ⟨ret_int Hk.out.symm, Hb2.out⟩
  · obtain ⟨d, m, e, hd1, hd2⟩ := T.last_of t (by omega)
    have hk : t.kind = if e.cnt = 0 then 1 else 2 := by rw [hd1, T.kind_app]
    have h0 : ((t.cnt : Int) == 0) = false := by simpa using hz
    obtain ⟨be, oe, ce, p1, p2, p3, p4, p5⟩ := hT.pick (d := d) (k := d.cnt) hd1.symm rfl
    have hdc : t.cnt - 1 = d.cnt := by omega
    have x2 : w2.cell? ⟨g, (t.cnt - 1) * 2 + 1, none⟩ = some (.slice (some ⟨be, oe, none⟩) e.enc.length ce) := by
      rw [ho.cellAt _ (by omega), hdc, Nat.mul_comm]; exact p2
    have k3 := Lib.hid (isZero_any be oe e.enc.length ce (e.cnt : Int) w2 (by rw [T.enc_len]; omega) p3.head)
    have hge : 1 ≤ t.cnt := by omega
    have HK := Lib.hid hk
    clear p1 p2 p3 ho hT hd1 hd2 hdc hz hk
    by_cases he : e.cnt = 0
    · have h3 : ((e.cnt : Int) == 0) = true := by rw [he]; rfl
      have He := Lib.hid he
      clear he
      go_wp2_with fail
      refine (k3.out).mono ?_
      rintro ee w' ⟨rfl, rfl⟩
      go_wp2_with fail
      go_ret
      exact ⟨ret_int (by rw [HK.out, if_pos He.out]), Hb2.out⟩
    · have h3 : ((e.cnt : Int) == 0) = false := by simpa using he
      have He := Lib.hid he
      clear he
      go_wp2_with fail
      refine (k3.out).mono ?_
      rintro ee w' ⟨rfl, rfl⟩
      go_wp2_with fail
      go_ret
      exact ⟨ret_int (by rw [HK.out, if_neg He.out]), Hb2.out⟩
end Go.Proofs.Ytlbaelehmoidpaa
