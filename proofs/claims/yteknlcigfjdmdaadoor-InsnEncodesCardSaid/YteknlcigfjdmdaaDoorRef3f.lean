/-
  The contract of the reference's Lay (layer 3): the bits that a number makes, by a format.
-/
import Derived.Test.YteknlcigfjdmdaaDoorRef3e
import Derived.Deep.RegionHeld3
namespace Go.Proofs.YteknlcigfjdmdaaDoor
open Go.ChangeShapes Go.WideShapes Go.ChangeAt Go.RowKit Wd

def layW (f : Nat) (x : Int) : Nat → Int
  | 0 => 0
  | k + 1 => if 0 ≤ (placesOf f).getD k (-1) then putS (layW f x k) ((placesOf f).getD k (-1)) 1 (bi (tbI x k)) else layW f x k
def layS (f : Nat) (n : Int) : Int := layW f (IntKind.u64.wrap n) (placesOf f).length
theorem layW_range (f : Nat) (x : Int) (k : Nat) : 0 ≤ layW f x k ∧ layW f x k < 18446744073709551616 := by
  induction k with
  | zero => exact ⟨by unfold layW; omega, by unfold layW; omega⟩
  | succ k ih =>
    unfold layW
    split
    · exact putS_range _ _ _ _
    · exact ih
theorem layS_range (f : Nat) (n : Int) : 0 ≤ layS f n ∧ layS f n < 18446744073709551616 := layW_range _ _ _
theorem getD_range (f : Nat) (hf : f < 15) (k : Nat) : -1 ≤ (placesOf f).getD k (-1) ∧ (placesOf f).getD k (-1) ≤ 31 := by
  by_cases h : k < (placesOf f).length
  · have := places_range ⟨f, hf⟩ ((placesOf f)[k]) (List.getElem_mem h)
    simp [List.getD, h]
    exact this
  · simp [List.getD, h]

set_option maxHeartbeats 4000000 in
theorem refLay_c (f : Nat) (hf : f < 15) (x : Int) (w : World) :
    Calls Tryd.prog 25 #[strV (Tab.names3.getD f []), .int .i64 x] w fun e w' => e = .returned (.int .u64 (layS f x)) ∧ Below w.heap.size w w' := by
  have hpl := places_len ⟨f, hf⟩
  simp only at hpl
  obtain ⟨n, hn⟩ : ∃ n, (placesOf f).length = n := ⟨_, rfl⟩
  rw [hn] at hpl
  have HN := Lib.hid hn
  have HL := Lib.hid (show layS f x = layW f (IntKind.u64.wrap x) n from by unfold layS; rw [hn])
  clear hn
  obtain ⟨r0, r1⟩ := wrap_range x
  generalize hnm : Tab.names3.getD f [] = nm
  have HNM := Lib.hid hnm
  clear hnm
  go_enter Tryd.func25, Tryd.ntmps25
  go_wp2_with fail
  rw [← HNM.out]
  refine (refPlaces_c f hf _).mono ?_
  rintro e w1 ⟨v, rfl, hown, hB⟩
  rw [HN.out] at hown
  by_cases hn0 : n = 0
  · have HZ := Lib.hid (show (0 : Int) = layS f x from by rw [HL.out, hn0]; rfl)
    obtain ⟨ao, cp, rfl⟩ : ∃ ao cp, v = .slice ao 0 cp := by
      rcases hown.2 with ⟨h1, _⟩ | ⟨g, cap, cur, h1, _⟩
      · exact ⟨_, _, h1⟩
      · exact ⟨_, _, by rw [h1, hn0]⟩
    have HB := Lib.hid hB
    clear hown hB hn0 hpl HN HL
    go_wp2_with fail
    go_loop [7, 8] (fun v i => i = .int .i64 0 ∧ v = .int .u64 0) (fun _ _ => 0)
    case atStart => exact ⟨rfl, rfl⟩
    case round =>
      obtain ⟨rfl, rfl⟩ := hrel
      go_wp2_with fail
      go_ret
      exact ⟨ret_u HZ.out, HB.out⟩
  · obtain ⟨g, cap, cur, rfl, hb, hg, hcap, hmax, hcs, htake⟩ := hown.2.resolve_left (fun h => by omega)
    have hglt : g < w1.heap.size := (Array.getElem?_eq_some_iff.1 hg).1
    have HC := Lib.hid (show ∀ j, j < n → w1.cell? ⟨g, j, none⟩ = some (.int .i64 ((placesOf f).getD j (-1))) from fun j hj => by
      rw [hown.cellAt j (by omega)]
      have hj' : j < (placesOf f).length := by rw [HN.out]; exact hj
      simp [List.getD, hj'])
    have HB := Lib.hid hB
    clear hown hb hg hcs htake hmax hB
    go_wp2_with fail
    go_loopw [7, 8] (fun v i wr => ∃ k : Nat, k ≤ n ∧ i = .int .i64 k ∧ v = .int .u64 (layW f (IntKind.u64.wrap x) k) ∧ Below w1.heap.size w1 wr) (fun _ i _ => n - (intOf i).toNat)
    case atStart => exact ⟨0, Nat.zero_le _, rfl, rfl, Below.refl _ _⟩
    case round =>
      obtain ⟨k, hk, rfl, rfl, hnx⟩ := hrel
      have hsz := hnx.size
      obtain ⟨l0, l1⟩ := layW_range f (IntKind.u64.wrap x) k
      by_cases hlt : k < n
      · have h1 := (hnx.cell (p := ⟨g, k, none⟩) hglt).trans (HC.out k hlt)
        have HS := Lib.hid (show layW f (IntKind.u64.wrap x) (k + 1) = if 0 ≤ (placesOf f).getD k (-1) then putS (layW f (IntKind.u64.wrap x) k) ((placesOf f).getD k (-1)) 1 (bi (tbI (IntKind.u64.wrap x) k)) else layW f (IntKind.u64.wrap x) k from rfl)
        obtain ⟨p0, p1⟩ := getD_range f hf k
        generalize (placesOf f).getD k (-1) = pk at *
        generalize layW f (IntKind.u64.wrap x) k = lw at *
        obtain ⟨b0, b1⟩ := bi_range (tbI (IntKind.u64.wrap x) k)
        have g0 : decide ((k : Int) < n) = true := decide_eq_true (by omega)
        by_cases hp : 0 ≤ pk
        · have g1 : decide (0 ≤ pk) = true := decide_eq_true hp
          go_wp2_with fail
          clear g0 g1
          go_region_held3 (fun w' => w'.cell? ⟨g, k, none⟩ = some (.int .i64 pk)) (first | exact h1 | exact k1)
            (first
              | (go_at_call 20; refine (bit_c _ _ _ r0 r1).mono ?_; rintro e w' ⟨rfl, rfl⟩)
              | (go_at_call 39; refine (refPut_c lw pk 1 _ _ l0 l1 (by omega) (by omega) b0 (by omega)).mono ?_; rintro e w2 ⟨rfl, hb2⟩; have k1 := (hb2.cell (p := ⟨g, k, none⟩) (Nat.lt_of_lt_of_le hglt hsz)).trans h1))
          clear h1
          go_wp2_with fail
          go_roundw
          case rel => exact ⟨k + 1, by omega, by go_num, by rw [HS.out, if_pos hp], hnx.drew.trans (hb2.mono hsz)⟩
          case measure => simp [intOf]; omega
        · have g1 : decide (0 ≤ pk) = false := decide_eq_false hp
          go_wp2_with fail
          clear g0 g1
          go_roundw
          case rel => exact ⟨k + 1, by omega, by go_num, by rw [HS.out, if_neg hp], hnx⟩
          case measure => simp [intOf]; omega
      · obtain rfl : n = k := by omega
        have HB2 := Lib.hid (HB.out.trans (hnx.mono HB.out.size))
        go_wp2_with fail
        go_ret
        exact ⟨ret_u (by rw [HL.out]), HB2.out⟩
end Go.Proofs.YteknlcigfjdmdaaDoor
