/-
  Contracts of resv.Table: Who, Kill.
-/
import Derived.Test.YtabackklpemhpaaRvB
namespace Go.Proofs.Ytabackklpemhpaa
open Go.ChangeShapes Go.WideShapes Go.ChangeAt Go.RowKit

theorem one_intR (k : Int) : (#[Value.int .i64 k] : Array Value).all (·.oneCell') = true := by simp [Value.oneCell']
theorem info_intR : (Try.prog.info? 3).map (fun i => (i.zero, i.size, i.bytes)) = some (some (.int .i64 0), 1, 8) := by kernel_rfl
set_option maxHeartbeats 4000000 in
theorem rwho_c (b o : Nat) (T : Rv.Tb) (l : Int) (w : World) (hT : TbAt w b o T) :
    Calls Try.prog 10 #[.pointer (some ⟨b, o, none⟩), .int .u64 l] w fun e w' => ∃ v, e = .returned v ∧ w'.ownsRow w.heap.size 3 1 v (Rv.who T l 8).length (iV (Rv.who T l 8)) ∧ Below w.heap.size w w' := by
  have HT := Lib.hid hT
  clear hT
  go_enter Try.func10, Try.ntmps10
  go_wp2_with fail
  go_loopw [7, 5] (fun i v wr => ∃ k : Nat, k ≤ 8 ∧ i = .int .i64 k ∧ wr.ownsRow w.heap.size 3 1 v (Rv.who T l k).length (iV (Rv.who T l k)) ∧ Below w.heap.size w wr) (fun i _ _ => 8 - (intOf i).toNat)
  case atStart => exact ⟨0, by omega, rfl, World.ownsRow_nil _ _ _ _, Below.refl _ _⟩
  case round =>
    obtain ⟨k, hk, rfl, hown, hb⟩ := hrel
    have HO := Lib.hid hown
    have HB := Lib.hid hb
    have HTR := Lib.hid (HT.out.low hb)
    clear hown hb
    by_cases hlt : k < 8
    · have g : (k : Int) < 8 := by omega
      have HC := Lib.hid (rhasl_c b o T (k : Int) l wr HTR.out)
      go_wp2_with fail
      refine HC.out.mono ?_
      rintro e w1 ⟨rfl, rfl⟩
      by_cases ht : T k = some l
      · have hh : Rv.has T (k : Int) l = true := by unfold Rv.has; rw [Rv.at_in hlt]; simpa using ht
        have HE := Lib.hid (show Rv.who T l (k + 1) = Rv.who T l k ++ [(k : Int)] by rw [Rv.who, if_pos ht])
        have hlen := Rv.who_len T l k
        have hsz := HB.out.size
        rw [hh]
        go_wp2_with (at_builtin; refine wpList_push rfl _ _ 28 rfl w.heap.size 3 (.int .i64 0) 1 8 Try.underlying28 info_intR rfl (by omega) (by omega) _ (Rv.who T l k).length _ rfl HO.out #[.int .i64 (k : Int)] rfl (one_intR _) _ rfl rfl (by omega) hsz ?_)
        rintro v' w2 hown hb
        have HB2 := Lib.hid (HB.out.trans hb)
        have HO2 := Lib.hid (show w2.ownsRow w.heap.size 3 1 v' (Rv.who T l (k + 1)).length (iV (Rv.who T l (k + 1))) from by
          rw [HE.out, List.length_append]
          simp only [iV, List.map_append, List.map_cons, List.map_nil, List.length_cons, List.length_nil]
          simpa using hown)
        clear hown hb
        go_wp2_with fail
        go_roundw
        case rel => exact ⟨k + 1, by omega, by go_num, HO2.out, HB2.out⟩
        case measure => simp [intOf]; omega
      · have hh : Rv.has T (k : Int) l = false := by unfold Rv.has; rw [Rv.at_in hlt]; simpa using ht
        have HE := Lib.hid (show Rv.who T l (k + 1) = Rv.who T l k by rw [Rv.who, if_neg ht])
        rw [hh]
        go_wp2_with fail
        go_roundw
        case rel => exact ⟨k + 1, by omega, by go_num, by rw [HE.out]; exact HO.out, HB.out⟩
        case measure => simp [intOf]; omega
    · obtain rfl : k = 8 := by omega
      go_wp2_with fail
      go_ret
      exact ⟨_, rfl, HO.out, HB.out⟩
theorem own_keep {w w' : World} {base : Nat} {e : TypeId} {size : Nat} {v : Value} {n : Nat} {xs : List Value} (h : w.ownsRow base e size v n xs) (hk : ∀ k, v.ownBlock = some k → w'.heap[k]? = w.heap[k]?) : w'.ownsRow base e size v n xs := by
  refine ⟨h.1, h.2.imp id ?_⟩
  rintro ⟨g, cap, cur, rfl, h1, h2, h3⟩
  exact ⟨g, cap, cur, rfl, h1, (hk g rfl).trans h2, h3⟩
theorem own_mid {w w' : World} {base : Nat} {e : TypeId} {size : Nat} {v : Value} {n : Nat} {xs : List Value} {b o m : Nat} (h : w.ownsRow base e size v n xs) (hm : Mid b o m w w') (hb : b < base) : w'.ownsRow base e size v n xs :=
  own_keep h fun k hk => hm.block k (h.lt k hk).2 (by have := (h.lt k hk).1; omega)
set_option maxHeartbeats 4000000 in
theorem rkill_c (b o : Nat) (T : Rv.Tb) (l but : Int) (w : World) (hT : TbAt w b o T) :
    Calls Try.prog 9 #[.pointer (some ⟨b, o, none⟩), .int .u64 l, .int .i64 but] w fun e w' => e = .returned (.int .i64 (Rv.cnt T l but 8 : Nat)) ∧ TbAt w' b o (Rv.kill T l but) ∧ Mid b o 16 w w' := by
  have HT := Lib.hid hT
  have HW := Lib.hid (rwho_c b o T l w hT)
  clear hT
  go_enter Try.func9, Try.ntmps9
  go_wp2_with fail
  refine HW.out.mono ?_
  rintro e w1 ⟨v, rfl, hown, hb⟩
  have HM := Lib.hid (Mid.of_below (b := b) (o := o) (n := 16) hb HT.out.lt)
  have HT1 := Lib.hid (HT.out.low hb)
  have HO := Lib.hid hown
  obtain ⟨p, cap, rfl, -, -, -⟩ := own_form hown
  have hlen := Rv.who_len T l 8
  have hbw := HT.out.lt
  have hok := HT.out.ok
  clear hb HW hown HT
  go_wp2_with fail
  go_loopw [14, 7] (fun i c wr => ∃ j : Nat, j ≤ (Rv.who T l 8).length ∧ i = .int .i64 j ∧ c = .int .i64 (Rv.midN T l but j : Nat) ∧ TbAt wr b o (Rv.mid T l but j) ∧ Mid b o 16 w wr ∧ wr.ownsRow w.heap.size 3 1 (.slice p (Rv.who T l 8).length cap) (Rv.who T l 8).length (iV (Rv.who T l 8))) (fun i _ _ => (Rv.who T l 8).length - (intOf i).toNat)
  case atStart => exact ⟨0, Nat.zero_le _, rfl, rfl, by rw [Rv.mid_zero]; exact HT1.out, HM.out, HO.out⟩
  case round =>
    obtain ⟨j, hj, rfl, rfl, hT, hm, hown⟩ := hrel
    have HTR := Lib.hid hT
    have HMR := Lib.hid hm
    have HOR := Lib.hid hown
    clear hT hm hown HT1 HM HO
    have hcn := Rv.midN_le T l but j
    by_cases hlt : j < (Rv.who T l 8).length
    · obtain ⟨g, cp, hp, -, -, -⟩ := own_pos HOR.out (by omega)
      obtain ⟨rfl, rfl⟩ : p = some ⟨g, 0, none⟩ ∧ cap = cp := by cases hp; exact ⟨rfl, rfl⟩
      obtain ⟨i, hi, hx, ht⟩ := Rv.who_in hlt
      have c := HOR.out.cellAt j (by omega)
      rw [iV_at _ _ hlt, hx] at c
      have gl : (j : Int) < (Rv.who T l 8).length := by omega
      have HCL := Lib.hid (rclr_c b o _ (i : Int) wr HTR.out)
      clear hp
      by_cases hne : (i : Int) = but
      · have HE := Lib.hid (Rv.mid_but (T := T) (l := l) (but := but) hlt (hx.trans hne))
        have gn : ((i : Int) == but) = true := by simpa using hne
        generalize (Rv.who T l 8).length = len at *
        go_wp2_with fail
        go_roundw
        case rel => exact ⟨j + 1, by omega, by go_num, by rw [HE.out.2], by rw [HE.out.1]; exact HTR.out, HMR.out, HOR.out⟩
        case measure => simp [intOf]; omega
      · obtain ⟨e1, e2, e3⟩ := Rv.mid_step (T := T) (l := l) (but := but) hlt hx hne
        have gn : ((i : Int) == but) = false := by simpa using hne
        have HCE := Lib.hid (show (Rv.at_ (Rv.mid T l but j) (i : Int)).isSome = true by rw [Rv.at_in hi, e1, ht]; rfl)
        have HEE := Lib.hid (show Rv.clr (Rv.mid T l but j) (i : Int) = Rv.mid T l but (j + 1) by rw [Rv.clr_in hi, e2])
        have HNN := Lib.hid e3
        rw [HCE.out, HEE.out] at HCL
        clear e1 e2 e3 HCE HEE
        generalize Rv.midN T l but j = n0 at *
        go_wp2_with fail
        refine HCL.out.mono ?_
        rintro e w2 ⟨rfl, hT, hm⟩
        have HT2 := Lib.hid hT
        have HM2 := Lib.hid (HMR.out.trans hm)
        have HO2 := Lib.hid (own_mid HOR.out hm hbw)
        clear hT hm HCL
        go_wp2_with fail
        go_roundw
        case rel => exact ⟨j + 1, by omega, by go_num, by rw [HNN.out]; go_num, HT2.out, HM2.out, HO2.out⟩
        case measure => simp [intOf]; omega
    · obtain rfl : j = (Rv.who T l 8).length := by omega
      have HE := Lib.hid (Rv.mid_end hok l but)
      rw [HE.out] at HTR
      have HN := Lib.hid (Rv.midN_end T l but)
      generalize (Rv.who T l 8).length = len at *
      go_wp2_with fail
      go_ret
      exact ⟨by rw [← HN.out]; rfl, HTR.out, HMR.out⟩
end Go.Proofs.Ytabackklpemhpaa
