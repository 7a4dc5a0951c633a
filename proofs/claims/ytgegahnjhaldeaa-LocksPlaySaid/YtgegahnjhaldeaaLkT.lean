/-
  Contract of what the law's step hands over: what a job is for.
-/
import Derived.Test.YtgegahnjhaldeaaLkQ
import Derived.Test.YtgegahnjhaldeaaLkS
namespace Go.Proofs.Ytgegahnjhaldeaa
open Go.ChangeShapes Go.WideShapes Go.ChangeAt Go.RowKit

theorem needsV_c (b off : Nat) (p : Option Addr) (cap : Nat) (took gave : Int) (did : Bool) (xs : List Int) (w : World) (hj : JobAt w b off (.slice p xs.length cap) took gave did) (hv : Vw w p (iV xs)) (hp : p = none ∧ cap = 0 ∨ ∃ b off, p = some ⟨b, off, none⟩) (hl : xs.length ≤ 900000) :
    Calls Try.prog 23 #[.pointer (some ⟨b, off, none⟩)] w fun e w' => ∃ v', e = .returned v' ∧ w'.ownsRow w.heap.size 3 1 v' xs.length (iV xs) ∧ Below w.heap.size w w' := by
  have c0 := hj.c0
  have HX := Lib.hid (clone_c _ p cap xs w rfl hv hp hl)
  clear hj hv hp
  go_enter Try.func23, Try.ntmps23
  go_wp2_with fail
  refine HX.out.mono ?_
  rintro e w1 ⟨v', rfl, hown, hb⟩
  have HO := Lib.hid (And.intro hown hb)
  clear hown hb
  go_wp2_with fail
  go_ret
  exact ⟨_, rfl, HO.out.1, HO.out.2⟩
theorem fine_en : Go.Proofs.Enters Try.prog 53 := enters_of Try.func53 rfl rfl
set_option maxHeartbeats 4000000 in
theorem fine_c (bl bw bj bf : Nat) (lq : Option Addr) (who : Int) (n : Nat) (R : Int → List Int) (b off : Nat) (p : Option Addr) (cap : Nat) (took gave : Int) (did old : Bool) (xs : List Int) (w : World)
    (h1 : w.cell? ⟨bl, 0, none⟩ = some (.pointer lq)) (h2 : w.cell? ⟨bw, 0, none⟩ = some (.int .i64 who)) (h3 : w.cell? ⟨bj, 0, none⟩ = some (.pointer (some ⟨b, off, none⟩))) (h4 : w.cell? ⟨bf, 0, none⟩ = some (.bool old)) (h5 : w.frozen? ⟨bf, 0, none⟩ = false)
    (h : LkV w (.pointer lq) n R) (hj : JobAt w b off (.slice p xs.length cap) took gave did) (hv : Vw w p (iV xs)) (hp : p = none ∧ cap = 0 ∨ ∃ b off, p = some ⟨b, off, none⟩) (hl : xs.length ≤ 900000) :
    Calls Try.prog 53 #[.pointer (some ⟨bl, 0, none⟩), .pointer (some ⟨bw, 0, none⟩), .pointer (some ⟨bj, 0, none⟩), .pointer (some ⟨bf, 0, none⟩)] w fun e w' =>
      e = .returned (.tuple #[]) ∧ ∃ w1, Below w.heap.size w w1 ∧ w' = w1.setCell ⟨bf, 0, none⟩ (.bool (decide (Lk.which (Lk.holds who) R n = xs))) := by
  have HH := Lib.hid (held_c (.pointer lq) who n R w h)
  have hwl := Nat.le_trans (Lk.which_len (Lk.holds who) R n) h.le
  have HV := Lib.hid hv
  have HJ := Lib.hid hj
  have l3 := World.block_lt_of_cell? w _ h3
  have l4 := World.block_lt_of_cell? w _ h4
  clear h hj hv
  go_enter Try.func53, Try.ntmps53
  go_wp2_with fail
  refine HH.out.mono ?_
  rintro e w1 ⟨v1, rfl, hown, hb⟩
  obtain ⟨p1, cap1, rfl, hv1, -, -⟩ := own_form2 hown
  have HB1 := Lib.hid hb
  have HV1 := Lib.hid hv1
  have k3 := (hb.cell (p := ⟨bj, 0, none⟩) l3).trans h3
  clear hown hb hv1 h1 h2 h3
  go_wp2_with fail
  refine (needsV_c b off p cap took gave did xs w1 (HJ.out.low HB1.out) (HV.out.low HB1.out) hp hl).mono ?_
  rintro e w2 ⟨v2, rfl, hown, hb⟩
  obtain ⟨p2, cap2, rfl, hv2, -, -⟩ := own_form2 hown
  have HB2 := Lib.hid hb
  have HV2 := Lib.hid hv2
  clear hown hb hv2 k3
  go_wp2_with fail
  refine (ints_c _ _ _ _ _ _ w2 (HV1.out.low HB2.out) HV2.out (by omega)).mono ?_
  rintro e w3 ⟨rfl, hb⟩
  have HB3 := Lib.hid ((HB1.out.trans (HB2.out.mono HB1.out.size)).trans (hb.mono (Nat.le_trans HB1.out.size HB2.out.size)))
  have k4 := (HB3.out.cell (p := ⟨bf, 0, none⟩) l4).trans h4
  have k5 := (World.frozen?_of_block (w := w) (a := ⟨bf, 0, none⟩) (HB3.out.block bf l4)).trans h5
  clear hb h4 h5
  go_wp2_with fail
  go_end0
  exact ⟨rfl, w3, HB3.out, rfl⟩
end Go.Proofs.Ytgegahnjhaldeaa
