/-
  The contract of the reference's Imm (layer 3): the number that a word has, by a format.
-/
import Derived.Test.YteknlcigfjdmdaaDoorRef3d
namespace Go.Proofs.YteknlcigfjdmdaaDoor
open Go.ChangeShapes Go.WideShapes Go.ChangeAt Go.RowKit Wd

theorem places_len : ∀ f : Fin 15, (placesOf f.val).length ≤ 32 := by decide +kernel
theorem places_range : ∀ f : Fin 15, ∀ x ∈ placesOf f.val, -1 ≤ x ∧ x ≤ 31 := by decide +kernel
theorem places_none : ∀ f : Fin 15, (placesOf f.val).length = 0 → signedOf f.val = false := by decide +kernel
def pbit (f : Nat) (x : Int) (j : Nat) : Bool := tbI x ((placesOf f).getD j (-1))
def immN (f : Nat) (x : Int) : Int := ((sumTo (pbit f x) (placesOf f).length : Nat) : Int)
def immS (f : Nat) (x : Int) : Int := wrap64 (if signedOf f then signS (immN f x) (placesOf f).length else immN f x)
theorem immN_range (f : Nat) (hf : f < 15) (x : Int) : 0 ≤ immN f x ∧ immN f x < 18446744073709551616 := by
  have h := places_len ⟨f, hf⟩
  simp only at h
  have a := sumTo_lt (pbit f x) (placesOf f).length
  have b : 2 ^ (placesOf f).length ≤ 2 ^ 32 := Nat.pow_le_pow_right (by decide) h
  unfold immN
  omega
set_option maxHeartbeats 400000 in
theorem of_0 (ao : Option Addr) (cap : Nat) (w : World) : Calls Tryd.prog 33 #[.slice ao 0 cap] w fun e w' => e = .returned (.int .u64 0) ∧ w = w' := by
  go_enter Tryd.func33, Tryd.ntmps33
  go_wp2
  go_loop [3, 4] (fun t i => i = .int .i64 (-1) ∧ t = .int .u64 0) (fun _ _ => 0)
  case atStart => exact ⟨rfl, rfl⟩
  case round =>
    obtain ⟨rfl, rfl⟩ := hrel
    go_wp2
    go_ret
    exact ⟨rfl, rfl⟩

set_option maxHeartbeats 4000000 in
theorem refImm_c (f : Nat) (hf : f < 15) (x : Int) (w : World) (hx0 : 0 ≤ x) (hx : x < 18446744073709551616) :
    Calls Tryd.prog 17 #[strV (Tab.names3.getD f []), .int .u64 x] w fun e w' => e = .returned (.int .i64 (immS f x)) ∧ Below w.heap.size w w' := by
  obtain ⟨i0, hi, hz0, hz1, hz2⟩ := info_parts info_u64
  have hpl := places_len ⟨f, hf⟩
  simp only at hpl
  obtain ⟨n, hn⟩ : ∃ n, (placesOf f).length = n := ⟨_, rfl⟩
  rw [hn] at hpl
  have HN := Lib.hid hn
  have HIM := Lib.hid (show immS f x = wrap64 (if signedOf f then signS (immN f x) n else immN f x) from by unfold immS; rw [hn])
  have HIN := Lib.hid (show immN f x = ((sumTo (pbit f x) n : Nat) : Int) from by unfold immN; rw [hn])
  obtain ⟨r0, r1⟩ := immN_range f hf x
  clear hn
  generalize hnm : Tab.names3.getD f [] = nm
  have HNM := Lib.hid hnm
  clear hnm
  go_enter Tryd.func17, Tryd.ntmps17
  go_wp2_with fail
  rw [← HNM.out]
  refine (refPlaces_c f hf _).mono ?_
  rintro e w1 ⟨v, rfl, hown, hB⟩
  rw [HN.out] at hown
  by_cases hn0 : n = 0
  · have hs : signedOf f = false := places_none ⟨f, hf⟩ (by simp only; rw [HN.out]; exact hn0)
    have HZ := Lib.hid (show (0 : Int) = immS f x from by rw [HIM.out, hs, HIN.out, hn0]; simp [sumTo, wrap64])
    obtain ⟨ao, cp, rfl⟩ : ∃ ao cp, v = .slice ao 0 cp := by
      rcases hown.2 with ⟨h1, _⟩ | ⟨g, cap, cur, h1, _⟩
      · exact ⟨_, _, h1⟩
      · exact ⟨_, _, by rw [h1, hn0]⟩
    rw [hs]
    have HB := Lib.hid hB
    clear hown hB hn0 hpl HN HIM HIN hs
    go_wp2_with fail
    go_loop [7, 8] (fun v i => i = .int .i64 0 ∧ v = .slice none 0 0) (fun _ _ => 0)
    case atStart => exact ⟨rfl, rfl⟩
    case round =>
      obtain ⟨rfl, rfl⟩ := hrel
      go_wp2_with fail
      refine (of_0 _ _ _).mono ?_
      rintro e w' ⟨rfl, rfl⟩
      go_wp2_with fail
      go_ret
      exact ⟨ret_u HZ.out, HB.out⟩
  · obtain ⟨g, cap, cur, rfl, hb, hg, hcap, hmax, hcs, htake⟩ := hown.2.resolve_left (fun h => by omega)
    have hglt : g < w1.heap.size := (Array.getElem?_eq_some_iff.1 hg).1
    have HC := Lib.hid (show ∀ j, j < n → w1.cell? ⟨g, j, none⟩ = some (.int .i64 ((placesOf f).getD j (-1))) from fun j hj => by
      rw [hown.cellAt j (by omega)]
      have hj' : j < (placesOf f).length := by rw [HN.out]; exact hj
      simp [List.getD, hj'])
    have HB := Lib.hid hB
    clear hown hb hg hcs htake hmax hB
    go_wp2_with fail
    go_loopw [7, 8] (fun v i wr => ∃ k : Nat, k ≤ n ∧ i = .int .i64 k ∧ wr.ownsRow w1.heap.size 29 1 v k (bl (pbit f x) k) ∧ Below w1.heap.size w1 wr) (fun _ i _ => n - (intOf i).toNat)
    case atStart => exact ⟨0, Nat.zero_le _, rfl, World.ownsRow_nil _ _ _ _, Below.refl _ _⟩
    case round =>
      obtain ⟨k, hk, rfl, hown, hnx⟩ := hrel
      have hsz := hnx.size
      have HO := Lib.hid hown
      clear hown
      by_cases hlt : k < n
      · have hc := (hnx.cell (p := ⟨g, k, none⟩) hglt).trans (HC.out k hlt)
        have hb : tbI x ((placesOf f).getD k (-1)) = pbit f x k := rfl
        have HBB := Lib.hid hb
        clear hb
        generalize (placesOf f).getD k (-1) = pk at *
        go_wp2_with (first
          | (go_at_call 20; refine (bit_c _ _ _ hx0 hx).mono ?_; rintro e w' ⟨rfl, rfl⟩)
          | (at_builtin; refine wpList_append_own _ rfl _ _ 69 rfl w1.heap.size 29 i0 (.int .u64 0) 1 8 Tryd.underlying69 hi hz0 hz1 hz2 rfl (by decide) _ _ _ rfl (HO.out.alloc _) ⟨wr.heap.size, 0, none⟩ 1 1 [.int .u64 (bi (tbI x pk))] rfl rfl news_one (one_cell _) (by unfold maxLen; omega) (by omega) (by simp; omega) ?_; intro v' w2 hown' hgrow _))
        have R := rel_app hsz HBB.out HO.out hown' hgrow hnx
        go_roundw
        case rel => exact ⟨k + 1, by omega, by go_num, R.1, R.2⟩
        case measure => simp [intOf]; omega
      · obtain rfl : n = k := by omega
        have HB2 := Lib.hid (HB.out.trans (hnx.mono HB.out.size))
        cases hs : signedOf f
        · go_wp2_with fail
          refine (of_c (pbit f x) n _ w1.heap.size _ (by omega) (by omega) HO.out).mono ?_
          rintro e w' ⟨rfl, rfl⟩
          rw [← HIN.out]
          go_wp2_with fail
          go_ret
          exact ⟨ret_u (by rw [HIM.out, hs]; rfl), HB2.out⟩
        · go_wp2_with fail
          refine (of_c (pbit f x) n _ w1.heap.size _ (by omega) (by omega) HO.out).mono ?_
          rintro e w' ⟨rfl, rfl⟩
          rw [← HIN.out]
          go_wp2_with fail
          refine (refSign_c _ _ _ r0 r1 (by omega)).mono ?_
          rintro e w3 ⟨rfl, hb3⟩
          go_wp2_with fail
          go_ret
          exact ⟨ret_u (by rw [HIM.out, hs]; rfl), HB2.out.trans (hb3.mono HB2.out.size)⟩
end Go.Proofs.YteknlcigfjdmdaaDoor
