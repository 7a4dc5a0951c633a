/-
  The reference of layer 10: contract of Fill.
-/
import Derived.Test.YtdlollkieihjpaaRrC
namespace Go.Proofs.Ytdlollkieihjpaa
open Go.ChangeShapes Go.WideShapes Go.ChangeAt Go.RowKit Wd

/-- What Fill tells, and what it leaves. -/
def flB (n : Nat) (x : Int) (bs : List Int) : Bool := decide (bs.length = 0) || hasB n x (bs.length : Int)
def flV (B : List Int) (n : Nat) (x : Int) (bs : List Int) : List Int := if hasB n x (bs.length : Int) then Rm.lay B (x - 2147483648).toNat bs.length (fun k => bs.getD k 0) else B
theorem getD_rng {bs : List Int} (h : ∀ x ∈ bs, 0 ≤ x ∧ x ≤ 255) (j : Nat) : 0 ≤ bs.getD j 0 ∧ bs.getD j 0 ≤ 255 := by
  by_cases hj : j < bs.length
  · rw [List.getD, List.getElem?_eq_getElem hj]
    exact h _ (List.getElem_mem _)
  · rw [List.getD, List.getElem?_eq_none (by omega)]
    exact ⟨by decide, by decide⟩
theorem flV_ok {B : List Int} {n : Nat} (h : Rm.Ok B n) (x : Int) {bs : List Int} (hb : ∀ x ∈ bs, 0 ≤ x ∧ x ≤ 255) : Rm.Ok (flV B n x bs) n := by
  unfold flV
  split
  · exact Rm.lay_ok h _ _ fun j => getD_rng hb j
  · exact h
theorem addr_fl {n : Nat} {x m : Int} (h : hasB n x m = true) : ∃ a : Nat, x = 2147483648 + (a : Int) ∧ (a : Int) + m ≤ 64 * n := by
  have := hasB_iff.1 h
  exact ⟨(x - 2147483648).toNat, by omega, by omega⟩
set_option maxHeartbeats 2000000 in
theorem rfill_c {w : World} {gb n : Nat} (cap : Nat) {t : TypeId} {B : List Int} (h : RefAt w gb t n B) (x : Int) (hx : 0 ≤ x ∧ x < 18446744073709551616) {p : Option Addr} (cp : Nat) {bs : List Int} (hs : SlAt w p bs) (hl : bs.length ≤ 500) (hne : bs ≠ [] → ∀ b off, p = some ⟨b, off, none⟩ → b ≠ gb) :
    Calls Try.prog 28 #[mV gb n cap, .int .u64 x, .slice p bs.length cp] w fun e w' => e = .returned (.bool (flB n x bs)) ∧ RefAt w' gb t n (flV B n x bs) ∧ Only gb w w' := by
  have hB := (Below.refl w.heap.size w).alloc (Nat.le_refl _) (.cells #[.slice (some ⟨gb, 0, none⟩) (64 * n) cap] 34)
  have HH := Lib.hid (h.low hB)
  have HC := Lib.hid (CsAt.new w 34 #[.slice (some ⟨gb, 0, none⟩) (64 * n) cap])
  have HB := Lib.hid hB
  have HX := Lib.hid hx
  have HS := Lib.hid hs
  have HNE := Lib.hid hne
  have hn := h.n1
  have hlt := h.lt
  have c0 := HC.out.cell 0
  have HK := Lib.hid h.ok
  clear h hB hx hs hne
  by_cases h0 : bs.length = 0
  · have HE := Lib.hid (show flB n x bs = true by unfold flB; rw [decide_eq_true h0]; rfl)
    have HV := Lib.hid (show flV B n x bs = B by unfold flV; rw [h0]; rfl)
    rw [HE.out, HV.out]
    have H0 := Lib.hid h0
    have g0 : ((bs.length : Int) == 0) = true := by simp [h0]
    clear h0
    unfold mV
    go_enter Try.func28, Try.ntmps28
    go_wp2_with fail
    go_ret
    exact ⟨rfl, HH.out, Only.of_below HB.out⟩
  · have HE := Lib.hid (show flB n x bs = hasB n x (bs.length : Int) by unfold flB; rw [decide_eq_false h0]; rfl)
    rw [HE.out]
    have g0 : ((bs.length : Int) == 0) = false := by rw [beq_eq_false_iff_ne]; omega
    cases hf : hasB n x (bs.length : Int)
    · have HV := Lib.hid (show flV B n x bs = B by unfold flV; rw [hf]; rfl)
      have HF := Lib.hid hf
      rw [HV.out]
      clear hf
      unfold mV
      go_enter Try.func28, Try.ntmps28
      go_wp2_with fail
      generalize w.alloc (.cells #[.slice (some ⟨gb, 0, none⟩) (64 * n) cap] 34) = w1 at *
      refine (rhas_c gb n cap hn x _ HX.out ⟨by omega, by omega⟩).mono ?_
      rintro e w2 ⟨rfl, hb⟩
      have HB2 := Lib.hid (HB.out.trans (hb.mono HB.out.size))
      have HH2 := Lib.hid (HH.out.low hb)
      clear hb
      rw [HF.out]
      go_wp2_with fail
      go_ret
      exact ⟨rfl, HH2.out, Only.of_below HB2.out⟩
    · obtain ⟨a, rfl, hle⟩ := addr_fl hf
      have HF := Lib.hid hf
      have HV := Lib.hid (show flV B n (2147483648 + (a : Int)) bs = Rm.lay B a bs.length (fun k => bs.getD k 0) by
        unfold flV
        rw [hf, show (2147483648 + (a : Int) - 2147483648).toNat = a by omega]
        rfl)
      rw [HV.out]
      clear hf HV
      obtain ⟨b, off, rfl, hb0, hc⟩ := HS.out.at_.resolve_left (fun e => h0 (by rw [e]; rfl))
      have HCC := Lib.hid hc
      have HN2 := Lib.hid (HNE.out (fun e => h0 (by rw [e]; rfl)) b off rfl)
      have HRG := Lib.hid HS.out.rng
      clear hc
      unfold mV
      go_enter Try.func28, Try.ntmps28
      go_wp2_with fail
      generalize w.alloc (.cells #[.slice (some ⟨gb, 0, none⟩) (64 * n) cap] 34) = w1 at *
      refine (rhas_c gb n cap hn _ _ HX.out ⟨by omega, by omega⟩).mono ?_
      rintro e w2 ⟨rfl, hb⟩
      have HO2 := Lib.hid (Only.of_below (b := gb) (HB.out.trans (hb.mono HB.out.size)))
      have HH2 := Lib.hid (HH.out.low hb)
      have HC2 := Lib.hid (HC.out.low hb)
      have HZ := Lib.hid (show RefAt w2 gb t n (Rm.lay B a 0 (fun k => bs.getD k 0)) by rw [Rm.lay_zero]; exact HH2.out)
      clear hb c0 HB HH HC HH2 HS HNE
      rw [HF.out]
      go_wp2_with fail
      generalize hL : bs.length = L at *
      have HLL := Lib.hid hL
      clear hL
      go_loopw [7] (fun j wr => ∃ k : Nat, k ≤ L ∧ j = .int .i64 (k : Int) ∧ RefAt wr gb t n (Rm.lay B a k (fun k => bs.getD k 0)) ∧ Only gb w wr ∧ CsAt wr w.heap.size 34 #[.slice (some ⟨gb, 0, none⟩) (64 * n) cap]) (fun j _ => L - (intOf j).toNat)
      case atStart => exact ⟨0, by omega, rfl, HZ.out, HO2.out, HC2.out⟩
      case round =>
        obtain ⟨k, hk, rfl, hR, hO, hC⟩ := hrel
        have HR' := Lib.hid hR
        have HO' := Lib.hid hO
        have HC' := Lib.hid hC
        clear hR hO hC
        by_cases hlt2 : k < L
        · have g3 : decide ((k : Int) < (L : Int)) = true := by simp; omega
          have HST := Lib.hid (Rm.lay_step B a k (fun k => bs.getD k 0) (by have := HK.out.len; omega))
          have HOK := Lib.hid (Rm.lay_ok HK.out a (k + 1) (f := fun k => bs.getD k 0) (fun j => getD_rng HRG.out j))
          have hw0 : IntKind.u64.wrap (2147483648 + (a : Int) - 2147483648) = (a : Int) := by rw [IntKind.wrap_u64]; omega
          have hw1 : IntKind.i64.wrap (a : Int) = (a : Int) := by rw [IntKind.wrap_i64]; omega
          have hw2 : IntKind.i64.wrap ((a : Int) + (k : Int)) = (a : Int) + (k : Int) := by rw [IntKind.wrap_i64]; omega
          have hb1 : (k : Int) < (L : Int) := by omega
          have hb2 : (a : Int) + (k : Int) < 64 * (n : Int) := by omega
          have hb3 : 0 ≤ (a : Int) + (k : Int) := by omega
          have htn : ((a : Int) + (k : Int)).toNat = a + k := by omega
          go_upto_region 8 with (fail)
          refine wp_region_steady_tail (fun W => RefAt W gb t n (Rm.lay B a k (fun k => bs.getD k 0)) ∧ Only gb w W ∧ CsAt W w.heap.size 34 #[.slice (some ⟨gb, 0, none⟩) (64 * n) cap]) 12 (by kernel_rfl) (by kernel_rfl) ⟨HR'.out.low (Below.refl _ _).drew, HO'.out.trans (Only.of_below (Below.refl _ _).drew), HC'.out⟩ ?_
          iterate 12
            refine steady_val ?_ ?_ (by kernel_rfl) (fun W hS => ?_) ?_ ?_
            rotate_left 2
            · have c0 := hS.2.2.cell 0; have c1 := (hS.2.1.cell (p := ⟨b, off + k, none⟩) hb0 HN2.out).trans (HCC.out k (by have := HLL.out; omega))
              go_simp
              exact rfl
            · go_simp
              exact rfl
          refine steady_nil ?_
          rintro W ⟨hW1, hW2, hW3⟩
          simp only [List.drop_succ_cons, List.drop_zero]
          have HR2 := Lib.hid hW1
          have HO3 := Lib.hid hW2
          have HC3 := Lib.hid hW3
          have hcell := hW1.cell (a + k) (by omega)
          have hfr := hW1.frozen (a + k)
          have hrg := getD_rng HRG.out k
          clear hW1 hW2 hW3 HC2 HO2 HZ
          generalize (Rm.lay B a k (fun k => bs.getD k 0)).getD (a + k) 0 = z at hcell
          go_wp2_with fail
          go_roundw
          case rel => exact ⟨k + 1, by omega, by go_num, HR2.out.set _ (by omega) HST.out HOK.out, HO3.out.setCell _ _, CsAt.farc HC3.out (by omega) _⟩
          case measure => simp [intOf]; omega
        · obtain rfl : k = L := by omega
          go_wp2_with fail
          go_ret
          exact ⟨rfl, by rw [HLL.out]; exact HR'.out, HO'.out⟩
end Go.Proofs.Ytdlollkieihjpaa
