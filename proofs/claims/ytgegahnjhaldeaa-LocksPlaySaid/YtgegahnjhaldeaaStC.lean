/-
  Contract of the reference of layer 12: Stuck.
-/
import Derived.Test.YtgegahnjhaldeaaStB
namespace Go.Proofs.Ytgegahnjhaldeaa
open Go.ChangeShapes Go.WideShapes Go.ChangeAt Go.RowKit
variable {Z : Nat → Prop}

set_option maxRecDepth 100000 in
set_option maxHeartbeats 16000000 in
theorem rstuck_c (rb n cap : Nat) (R : Int → List Int) (w : World) (h : RlAt Z w rb n R) (hok : Lk.Ok R n) (hn : n ≤ 128) :
    Calls Try.prog 17 #[.slice (some ⟨rb, 0, none⟩) n cap] w fun e w' => ∃ v, e = .returned v ∧ w'.ownsRow w.heap.size 3 1 v (Lk.stuck R n).length (iV (Lk.stuck R n)) ∧ Below w.heap.size w w' := by
  have HH := Lib.hid h
  have HOK := Lib.hid hok
  have HS := Lib.hid (show w.ownsRow w.heap.size 3 1 (.slice none 0 0) ([] : List Int).length (iV []) ∧ Below w.heap.size w w from ⟨World.ownsRow_nil _ _ _ _, Below.refl _ _⟩)
  clear h hok
  go_enter Try.func17, Try.ntmps17
  go_wp2_with fail
  go_loopw [3, 4] (fun v sv wr => ∃ (s : Nat) (best : List Int), s ≤ 255 ∧ best.length ≤ 8 ∧ sv = .int .i64 s ∧ Lk.bestF R n s best = Lk.stuck R n ∧ wr.ownsRow w.heap.size 3 1 v best.length (iV best) ∧ Below w.heap.size w wr) (fun _ sv _ => (intOf sv).toNat)
  case atStart => exact ⟨255, [], by omega, by simp, rfl, Lk.best_stuck R n, HS.out⟩
  case round =>
    obtain ⟨s, best, hs, hb8, rfl, hbf, hown, hb⟩ := hrel
    clear HS
    obtain ⟨pb, cb, rfl, -⟩ := own_form2 hown
    have HBF := Lib.hid hbf
    have HO := Lib.hid hown
    have HB := Lib.hid hb
    have HWS := Lib.hid hb.size
    clear hbf hown hb
    cases s with
    | zero =>
      rw [show ((0 : Nat) : Int) = 0 from rfl]
      have HE := Lib.hid (show best = Lk.stuck R n from HBF.out)
      go_wp2_with fail
      go_ret
      rw [← HE.out]
      exact ⟨_, rfl, HO.out, HB.out⟩
    | succ s =>
      have g0 : decide ((0 : Int) < ((s + 1 : Nat) : Int)) = true := decide_eq_true (by omega)
      obtain ⟨t, ht⟩ : ∃ t, s + 1 = t := ⟨_, rfl⟩
      rw [ht] at g0 HBF ⊢
      have g0' : (0 : Int) < (t : Int) := by omega
      have HT := Lib.hid ht
      have ht255 : t ≤ 255 := by omega
      have g0n : decide (0 < t) = true := decide_eq_true (by omega)
      clear ht hs
      have HI := Lib.hid (show wr.ownsRow wr.heap.size 3 1 (.slice none 0 0) (Lk.bitsU t 0).length (iV (Lk.bitsU t 0)) ∧ Below wr.heap.size wr wr from ⟨World.ownsRow_nil _ _ _ _, Below.refl _ _⟩)
      go_wp2_with fail
      obtain ⟨wo, rfl⟩ : ∃ wo : World, wo = wr := ⟨_, rfl⟩
      go_loopw [5, 6, 7] (fun u kv nv wr => ∃ k : Nat, k ≤ 8 ∧ kv = .int .i64 k ∧ nv = .int .i64 ((t / 2 ^ k : Nat) : Int) ∧ wr.ownsRow wo.heap.size 3 1 u (Lk.bitsU t k).length (iV (Lk.bitsU t k)) ∧ Below wo.heap.size wo wr) (fun _ kv _ _ => 8 - (intOf kv).toNat)
      case atStart => exact ⟨0, by omega, rfl, by simp, HI.out⟩
      case round =>
        obtain ⟨k, hk, rfl, rfl, hown, hb⟩ := hrel
        clear HI
        obtain ⟨pu, cu, rfl, -⟩ := own_form2 hown
        have HU := Lib.hid hown
        have HBU := Lib.hid hb
        have hsz := hb.size
        clear hown hb
        by_cases hk8 : k < 8
        · have gk : (k : Int) < 8 := by omega
          have hul := Lk.bitsU_len t k
          have HW := Lib.hid (show Lk.bitsU t (k + 1) = Lk.bitsU t k ++ (if t / 2 ^ k % 2 = 1 then [(k : Int)] else []) from rfl)
          have HD := Lib.hid (show t / 2 ^ (k + 1) = t / 2 ^ k / 2 by rw [Nat.pow_succ, Nat.div_div_eq_div_mul])
          obtain ⟨m, hm⟩ : ∃ m, t / 2 ^ k = m := ⟨_, rfl⟩
          have hmt : m ≤ 255 := by rw [← hm]; exact Nat.le_trans (Nat.div_le_self _ _) ht255
          rw [hm] at HW HD ⊢
          clear hm
          have hmod : (m : Int).tmod 2 = ((m % 2 : Nat) : Int) := by rw [Int.tmod_eq_emod_of_nonneg (by omega)]; omega
          have hdiv : (m : Int).tdiv 2 = ((m / 2 : Nat) : Int) := by rw [Int.tdiv_eq_ediv_of_nonneg (by omega)]; omega
          have hwd : IntKind.i64.wrap ((m / 2 : Nat) : Int) = ((m / 2 : Nat) : Int) := by rw [IntKind.wrap_i64]; omega
          have hwm : IntKind.i64.wrap ((m % 2 : Nat) : Int) = ((m % 2 : Nat) : Int) := by rw [IntKind.wrap_i64]; omega
          obtain ⟨d, hd⟩ : ∃ d, m / 2 = d := ⟨_, rfl⟩
          rw [hd] at hdiv hwd HD
          obtain ⟨U, hU⟩ : ∃ U, Lk.bitsU t k = U := ⟨_, rfl⟩
          obtain ⟨V, hV⟩ : ∃ V, Lk.bitsU t (k + 1) = V := ⟨_, rfl⟩
          rw [hU] at HU HW hul ⊢
          rw [hV] at HW
          have HV := Lib.hid hV
          clear hU hV hd
          by_cases hodd : m % 2 = 1
          · rw [if_pos hodd] at HW
            rw [hodd, show ((1 : Nat) : Int) = 1 from rfl] at hmod
            clear hwm
            clear hodd
            go_wp2_with (at_builtin; refine wpList_push rfl _ _ 36 rfl wo.heap.size 3 _ 1 8 Try.underlying36 info_intL rfl (by omega) (by omega) _ U.length _ rfl HU.out #[.int .i64 k] rfl (one_int k) _ rfl (by simp) (by omega) hsz ?_)
            intro v' w' hown' hb'
            obtain ⟨p', c', rfl, -⟩ := own_form2 hown'
            have HN := Lib.hid (show w'.ownsRow wo.heap.size 3 1 (.slice p' (U.length + 1) c') V.length (iV V) ∧ Below wo.heap.size wo w' from ⟨by rw [HW.out]; simpa using hown', HBU.out.trans hb'⟩)
            clear hown' hb' HU hsz
            go_wp2_with fail
            go_roundw
            case rel => exact ⟨k + 1, by omega, by go_num, by rw [HD.out], by rw [HV.out]; exact HN.out⟩
            case measure => simp [intOf]; omega
          · have hz : m % 2 = 0 := by omega
            rw [if_neg hodd] at HW
            rw [hz, show ((0 : Nat) : Int) = 0 from rfl] at hmod
            clear hwm
            clear hodd hz
            have HN := Lib.hid (show V = U by rw [HW.out]; simp)
            clear hsz
            go_wp2_with fail
            go_roundw
            case rel => exact ⟨k + 1, by omega, by go_num, by rw [HD.out], by rw [HV.out, HN.out]; exact ⟨HU.out, HBU.out⟩⟩
            case measure => simp [intOf]; omega
        · rw [show ((k : Nat) : Int) = 8 by omega]
          obtain rfl : k = 8 := by omega
          have HO2 := Lib.hid (own_on HO.out HBU.out fun b hb => (HO.out.lt b hb).2)
          have HB2 := Lib.hid (HB.out.trans (HBU.out.mono HB.out.size))
          have hul := Lk.bitsU_len t 8
          have hbu := (Lk.bitsU_mem t 8)
          have HSTEP := Lib.hid (show Lk.bestF R n s (if best.length < (Lk.bitsU t 8).length ∧ Lk.closedB R n (Lk.bitsU t 8) = true then Lk.bitsU t 8 else best) = Lk.stuck R n by
            have := HBF.out
            rw [← HT.out] at this ⊢
            exact this)
          have hst : s + 1 = t := HT.out
          have gs : IntKind.i64.wrap ((t : Int) - 1) = (s : Int) := by rw [IntKind.wrap_i64]; omega
          have gs2 : (t : Int) - 1 = (s : Int) := by omega
          obtain ⟨U, hU⟩ : ∃ U, Lk.bitsU t 8 = U := ⟨_, rfl⟩
          rw [hU] at HU HSTEP hul ⊢
          have HHR := Lib.hid (show RlAt Z wr rb n R from HH.out.keep HB2.out.size (fun b _ hlt => HB2.out.block b hlt) (fun _ h => h))
          have HCL := Lib.hid (rclosed_c rb n cap R pu cu U wr HHR.out HOK.out hn (by obtain ⟨p', c', e, hv, -⟩ := own_form2 HU.out; cases e; exact hv) hul)
          clear hU hbu HB HO
          by_cases hlen : best.length < U.length
          · have gl : (best.length : Int) < U.length := by omega
            have gl2 : decide ((best.length : Int) < (U.length : Int)) = true := decide_eq_true gl
            obtain ⟨c, hc⟩ : ∃ c, Lk.closedB R n U = c := ⟨_, rfl⟩
            rw [hc] at HCL HSTEP
            clear hc
            cases c
            · rw [if_neg (by simp)] at HSTEP
              go_wp2_with fail
              refine HCL.out.mono ?_
              rintro e w3 ⟨rfl, hb3⟩
              have HO3 := Lib.hid (own_low HO2.out hb3)
              have HB3 := Lib.hid (HB2.out.trans (hb3.mono HB2.out.size))
              clear hb3
              go_wp2_with fail
              go_roundw
              case rel => exact ⟨s, best, by omega, hb8, by go_num, HSTEP.out, HO3.out, HB3.out⟩
              case measure => simp [intOf]; omega
            · rw [if_pos ⟨hlen, rfl⟩] at HSTEP
              have HU2 := Lib.hid (own_mono HU.out HWS.out)
              go_wp2_with fail
              refine HCL.out.mono ?_
              rintro e w3 ⟨rfl, hb3⟩
              have HO3 := Lib.hid (own_low HU2.out hb3)
              have HB3 := Lib.hid (HB2.out.trans (hb3.mono HB2.out.size))
              clear hb3
              go_wp2_with fail
              go_roundw
              case rel => exact ⟨s, U, by omega, hul, by go_num, HSTEP.out, HO3.out, HB3.out⟩
              case measure => simp [intOf]; omega
          · have gl : ¬ (best.length : Int) < U.length := by omega
            have gl2 : decide ((best.length : Int) < (U.length : Int)) = false := decide_eq_false gl
            rw [if_neg (fun h => hlen h.1)] at HSTEP
            go_wp2_with fail
            go_roundw
            case rel => exact ⟨s, best, by omega, hb8, by go_num, HSTEP.out, HO2.out, HB2.out⟩
            case measure => simp [intOf]; omega
end Go.Proofs.Ytgegahnjhaldeaa
