/-
  The contract of the reference's Places (layer 3): where the bits of each format's number stand.
-/
import Derived.Test.YteknlcigfjdmdaaDoorRefT
namespace Go.Proofs.YteknlcigfjdmdaaDoor
open Go.ChangeShapes Go.WideShapes Go.ChangeAt Go.RowKit Wd

def placesOf (f : Nat) : List Int := match f with
  | 2 => [20, 21, 22, 23, 24, 25, 26, 27, 28, 29, 30, 31]
  | 3 => [7, 8, 9, 10, 11, 25, 26, 27, 28, 29, 30, 31]
  | 4 => [-1, 8, 9, 10, 11, 25, 26, 27, 28, 29, 30, 7, 31]
  | 5 => [-1, -1, -1, -1, -1, -1, -1, -1, -1, -1, -1, -1, 12, 13, 14, 15, 16, 17, 18, 19, 20, 21, 22, 23, 24, 25, 26, 27, 28, 29, 30, 31]
  | 6 => [-1, 21, 22, 23, 24, 25, 26, 27, 28, 29, 30, 20, 12, 13, 14, 15, 16, 17, 18, 19, 31]
  | 7 => [20, 21, 22, 23, 24, 25]
  | 8 => [20, 21, 22, 23, 24]
  | _ => []
def signedOf (f : Nat) : Bool := match f with
  | 2 | 3 | 4 | 5 | 6 => true
  | _ => false
def il (l : List Int) (k : Nat) : List Value := (l.take k).map (Value.int .i64)
theorem il_succ (l : List Int) (k : Nat) (x : Int) (h : l[k]? = some x) : il l (k + 1) = il l k ++ [.int .i64 x] := by
  unfold il
  rw [List.take_add_one, h]
  simp
theorem info_int : (Tryd.prog.info? 3).map (fun i => (i.zero, i.size, i.bytes)) = some (some (.int .i64 0), 1, 8) := by kernel_rfl
theorem rel_il {base k : Nat} {w wr w1 : World} {v v' : Value} {l : List Int} {o : Obj} {x : Int} (hb : base ≤ wr.heap.size) (hx : l[k]? = some x)
    (hown : wr.ownsRow base 3 1 v k (il l k)) (hown' : w1.ownsRow base 3 1 v' (k + 1) (il l k ++ [.int .i64 x])) (hgrow : (wr.alloc o).grownBy w1 v.ownBlock) (hnx : Below base w wr) :
    w1.ownsRow base 3 1 v' (k + 1) (il l (k + 1)) ∧ Below base w w1 := by
  refine ⟨by rw [il_succ l k x hx]; exact hown', (hnx.alloc hb o).grown hgrow (by simp; omega) (fun j hj => (hown.lt j hj).1)⟩
theorem one_cell_i (n : Int) : ∀ u ∈ [Value.int .i64 n], u.oneCell' = true := by
  intro u hu; simp at hu; subst hu; rfl
/-- What Places leaves: a slice of its own with the places, and whether the number has a sign. -/
def PlPost (w : World) (l : List Int) (s : Bool) (e : Ending) (w' : World) : Prop :=
  ∃ v, e = .returned (.tuple #[v, .bool s]) ∧ w'.ownsRow w.heap.size 3 1 v l.length (l.map (Value.int .i64)) ∧ Below w.heap.size w w'
theorem il_all (l : List Int) : il l l.length = l.map (Value.int .i64) := by unfold il; rw [List.take_length]
theorem bel1 (w : World) (o : Obj) : Below w.heap.size w (w.alloc o) := (Below.refl _ _).alloc (Nat.le_refl _) _

theorem pl2 : ∀ k : Nat, k < 12 → (placesOf 2)[k]? = some (20 + (k : Int)) := fun k hk => (by decide +kernel : ∀ k : Fin 12, (placesOf 2)[k.val]? = some (20 + (k.val : Int))) ⟨k, hk⟩
theorem pl3a : ∀ k : Nat, k < 5 → (placesOf 3)[k]? = some (7 + (k : Int)) := fun k hk => (by decide +kernel : ∀ k : Fin 5, (placesOf 3)[k.val]? = some (7 + (k.val : Int))) ⟨k, hk⟩
theorem pl3b : ∀ k : Nat, k < 7 → (placesOf 3)[5 + k]? = some (25 + (k : Int)) := fun k hk => (by decide +kernel : ∀ k : Fin 7, (placesOf 3)[5 + k.val]? = some (25 + (k.val : Int))) ⟨k, hk⟩
theorem pl5a : ∀ k : Nat, k < 12 → (placesOf 5)[k]? = some (-1) := fun k hk => (by decide +kernel : ∀ k : Fin 12, (placesOf 5)[k.val]? = some (-1)) ⟨k, hk⟩
theorem pl5b : ∀ k : Nat, k < 20 → (placesOf 5)[12 + k]? = some (12 + (k : Int)) := fun k hk => (by decide +kernel : ∀ k : Fin 20, (placesOf 5)[12 + k.val]? = some (12 + (k.val : Int))) ⟨k, hk⟩

set_option maxHeartbeats 2000000 in
theorem refPlaces_0 (w : World) : Calls Tryd.prog 32 #[.string ⟨#[]⟩] w (PlPost w (placesOf 0) (signedOf 0)) := by
  go_enter Tryd.func32, Tryd.ntmps32
  go_wp2
  go_ret2
  exact ⟨_, rfl, World.ownsRow_nil _ _ _ _, Below.refl _ _⟩
set_option maxHeartbeats 2000000 in
theorem refPlaces_1 (w : World) : Calls Tryd.prog 32 #[.string ⟨#[82]⟩] w (PlPost w (placesOf 1) (signedOf 1)) := by
  go_enter Tryd.func32, Tryd.ntmps32
  go_wp2
  go_ret2
  exact ⟨_, rfl, World.ownsRow_nil _ _ _ _, Below.refl _ _⟩
set_option maxHeartbeats 2000000 in
theorem refPlaces_2 (w : World) : Calls Tryd.prog 32 #[.string ⟨#[73]⟩] w (PlPost w (placesOf 2) (signedOf 2)) := by
  obtain ⟨i0, hi, hz0, hz1, hz2⟩ := info_parts info_int
  obtain ⟨L, hL⟩ : ∃ L, L = placesOf 2 := ⟨_, rfl⟩
  have HLN := Lib.hid (show L.length = 12 from by rw [hL]; rfl)
  have HL := Lib.hid hL
  clear hL
  go_enter Tryd.func32, Tryd.ntmps32
  go_wp2
  go_loopw [4, 5] (fun v i wr => ∃ k : Nat, k ≤ 12 ∧ i = .int .i64 (k : Int) ∧ wr.ownsRow w.heap.size 3 1 v (k) (il L (k)) ∧ Below w.heap.size w wr) (fun _ i _ => (12 - intOf i).toNat)
  case atStart => exact ⟨0, by omega, rfl, World.ownsRow_nil _ _ _ _, Below.refl _ _⟩
  case round =>
    obtain ⟨k, hk, rfl, hown, hnx⟩ := hrel
    have hsz := hnx.size
    have HO := Lib.hid hown
    clear hown
    by_cases hlt : k < 12
    · have HX := Lib.hid (show L[k]? = some (20 + (k : Int)) from by rw [HL.out]; exact pl2 k hlt)
      go_wp2_with (at_builtin; refine wpList_append_own _ rfl _ _ 66 rfl w.heap.size 3 i0 (.int .i64 0) 1 8 Tryd.underlying66 hi hz0 hz1 hz2 rfl (by decide) _ _ _ rfl (HO.out.alloc _) ⟨wr.heap.size, 0, none⟩ 1 1 [.int .i64 (20 + (k : Int))] rfl rfl news_one (one_cell_i _) (by unfold maxLen; omega) (by omega) (by simp; omega) ?_; intro v' w1 hown' hgrow _)
      have R := rel_il hsz HX.out HO.out hown' hgrow hnx
      go_roundw
      case rel => exact ⟨k + 1, by omega, by go_num, by exact R.1, R.2⟩
      case measure => simp [intOf]; omega
    · obtain rfl : k = 12 := by omega
      go_wp2
      go_ret2
      exact ⟨_, rfl, by rw [← HL.out, ← il_all, HLN.out]; exact HO.out, hnx⟩
set_option maxHeartbeats 2000000 in
theorem refPlaces_3 (w : World) : Calls Tryd.prog 32 #[.string ⟨#[83]⟩] w (PlPost w (placesOf 3) (signedOf 3)) := by
  obtain ⟨i0, hi, hz0, hz1, hz2⟩ := info_parts info_int
  obtain ⟨L, hL⟩ : ∃ L, L = placesOf 3 := ⟨_, rfl⟩
  have HLN := Lib.hid (show L.length = 12 from by rw [hL]; rfl)
  have HL := Lib.hid hL
  clear hL
  go_enter Tryd.func32, Tryd.ntmps32
  go_wp2
  go_loopw [4, 6] (fun v i wr => ∃ k : Nat, k ≤ 5 ∧ i = .int .i64 (k : Int) ∧ wr.ownsRow w.heap.size 3 1 v (k) (il L (k)) ∧ Below w.heap.size w wr) (fun _ i _ => (5 - intOf i).toNat)
  case atStart => exact ⟨0, by omega, rfl, World.ownsRow_nil _ _ _ _, Below.refl _ _⟩
  case round =>
    obtain ⟨k, hk, rfl, hown, hnx⟩ := hrel
    have hsz := hnx.size
    have HO := Lib.hid hown
    clear hown
    by_cases hlt : k < 5
    · have HX := Lib.hid (show L[k]? = some (7 + (k : Int)) from by rw [HL.out]; exact pl3a k hlt)
      go_wp2_with (at_builtin; refine wpList_append_own _ rfl _ _ 66 rfl w.heap.size 3 i0 (.int .i64 0) 1 8 Tryd.underlying66 hi hz0 hz1 hz2 rfl (by decide) _ _ _ rfl (HO.out.alloc _) ⟨wr.heap.size, 0, none⟩ 1 1 [.int .i64 (7 + (k : Int))] rfl rfl news_one (one_cell_i _) (by unfold maxLen; omega) (by omega) (by simp; omega) ?_; intro v' w1 hown' hgrow _)
      have R := rel_il hsz HX.out HO.out hown' hgrow hnx
      go_roundw
      case rel => exact ⟨k + 1, by omega, by go_num, by exact R.1, R.2⟩
      case measure => simp [intOf]; omega
    · obtain rfl : k = 5 := by omega
      rw [show ((5 : Nat) : Int) = (5 : Int) from rfl]
      have HN := Lib.hid hnx
      clear hnx
      go_wp2
      go_loopw [4, 7] (fun v i wr => ∃ k : Nat, k ≤ 7 ∧ i = .int .i64 (k : Int) ∧ wr.ownsRow w.heap.size 3 1 v (5 + k) (il L (5 + k)) ∧ Below w.heap.size w wr) (fun _ i _ => (7 - intOf i).toNat)
      case atStart => exact ⟨0, by omega, rfl, HO.out, HN.out⟩
      case round =>
        obtain ⟨k, hk, rfl, hown, hnx⟩ := hrel
        have hsz := hnx.size
        have HO := Lib.hid hown
        clear hown
        by_cases hlt : k < 7
        · have HX := Lib.hid (show L[5 + k]? = some (25 + (k : Int)) from by rw [HL.out]; exact pl3b k hlt)
          go_wp2_with (at_builtin; refine wpList_append_own _ rfl _ _ 66 rfl w.heap.size 3 i0 (.int .i64 0) 1 8 Tryd.underlying66 hi hz0 hz1 hz2 rfl (by decide) _ _ _ rfl (HO.out.alloc _) ⟨wr.heap.size, 0, none⟩ 1 1 [.int .i64 (25 + (k : Int))] rfl rfl news_one (one_cell_i _) (by unfold maxLen; omega) (by omega) (by simp; omega) ?_; intro v' w1 hown' hgrow _)
          have R := rel_il hsz HX.out HO.out hown' hgrow hnx
          go_roundw
          case rel => exact ⟨k + 1, by omega, by go_num, by rw [show 5 + (k + 1) = 5 + k + 1 by omega]; exact R.1, R.2⟩
          case measure => simp [intOf]; omega
        · obtain rfl : k = 7 := by omega
          go_wp2
          go_ret2
          exact ⟨_, rfl, by rw [← HL.out, ← il_all, HLN.out]; exact HO.out, hnx⟩
set_option maxHeartbeats 2000000 in
theorem refPlaces_4 (w : World) : Calls Tryd.prog 32 #[.string ⟨#[66]⟩] w (PlPost w (placesOf 4) (signedOf 4)) := by
  go_enter Tryd.func32, Tryd.ntmps32
  go_wp2
  go_ret2
  exact ⟨_, rfl, World.ownsRow_lit w #[.int .i64 (-1), .int .i64 (8), .int .i64 (9), .int .i64 (10), .int .i64 (11), .int .i64 (25), .int .i64 (26), .int .i64 (27), .int .i64 (28), .int .i64 (29), .int .i64 (30), .int .i64 (7), .int .i64 (31)] 13 (Nat.le_refl _) (by decide) (by decide), bel1 w _⟩
set_option maxHeartbeats 2000000 in
theorem refPlaces_5 (w : World) : Calls Tryd.prog 32 #[.string ⟨#[85]⟩] w (PlPost w (placesOf 5) (signedOf 5)) := by
  obtain ⟨i0, hi, hz0, hz1, hz2⟩ := info_parts info_int
  obtain ⟨L, hL⟩ : ∃ L, L = placesOf 5 := ⟨_, rfl⟩
  have HLN := Lib.hid (show L.length = 32 from by rw [hL]; rfl)
  have HL := Lib.hid hL
  clear hL
  go_enter Tryd.func32, Tryd.ntmps32
  go_wp2
  go_loopw [4, 8] (fun v i wr => ∃ k : Nat, k ≤ 12 ∧ i = .int .i64 (k : Int) ∧ wr.ownsRow w.heap.size 3 1 v (k) (il L (k)) ∧ Below w.heap.size w wr) (fun _ i _ => (12 - intOf i).toNat)
  case atStart => exact ⟨0, by omega, rfl, World.ownsRow_nil _ _ _ _, Below.refl _ _⟩
  case round =>
    obtain ⟨k, hk, rfl, hown, hnx⟩ := hrel
    have hsz := hnx.size
    have HO := Lib.hid hown
    clear hown
    by_cases hlt : k < 12
    · have HX := Lib.hid (show L[k]? = some (-1) from by rw [HL.out]; exact pl5a k hlt)
      go_wp2_with (at_builtin; refine wpList_append_own _ rfl _ _ 66 rfl w.heap.size 3 i0 (.int .i64 0) 1 8 Tryd.underlying66 hi hz0 hz1 hz2 rfl (by decide) _ _ _ rfl (HO.out.alloc _) ⟨wr.heap.size, 0, none⟩ 1 1 [.int .i64 (-1)] rfl rfl news_one (one_cell_i _) (by unfold maxLen; omega) (by omega) (by simp; omega) ?_; intro v' w1 hown' hgrow _)
      have R := rel_il hsz HX.out HO.out hown' hgrow hnx
      go_roundw
      case rel => exact ⟨k + 1, by omega, by go_num, by exact R.1, R.2⟩
      case measure => simp [intOf]; omega
    · obtain rfl : k = 12 := by omega
      rw [show ((12 : Nat) : Int) = (12 : Int) from rfl]
      have HN := Lib.hid hnx
      clear hnx
      go_wp2
      go_loopw [4, 9] (fun v i wr => ∃ k : Nat, k ≤ 20 ∧ i = .int .i64 (12 + (k : Int)) ∧ wr.ownsRow w.heap.size 3 1 v (12 + k) (il L (12 + k)) ∧ Below w.heap.size w wr) (fun _ i _ => (32 - intOf i).toNat)
      case atStart => exact ⟨0, by omega, rfl, HO.out, HN.out⟩
      case round =>
        obtain ⟨k, hk, rfl, hown, hnx⟩ := hrel
        have hsz := hnx.size
        have HO := Lib.hid hown
        clear hown
        by_cases hlt : k < 20
        · have HX := Lib.hid (show L[12 + k]? = some (12 + (k : Int)) from by rw [HL.out]; exact pl5b k hlt)
          go_wp2_with (at_builtin; refine wpList_append_own _ rfl _ _ 66 rfl w.heap.size 3 i0 (.int .i64 0) 1 8 Tryd.underlying66 hi hz0 hz1 hz2 rfl (by decide) _ _ _ rfl (HO.out.alloc _) ⟨wr.heap.size, 0, none⟩ 1 1 [.int .i64 (12 + (k : Int))] rfl rfl news_one (one_cell_i _) (by unfold maxLen; omega) (by omega) (by simp; omega) ?_; intro v' w1 hown' hgrow _)
          have R := rel_il hsz HX.out HO.out hown' hgrow hnx
          go_roundw
          case rel => exact ⟨k + 1, by omega, congrArg (Value.int .i64) (by omega), by rw [show 12 + (k + 1) = 12 + k + 1 by omega]; exact R.1, R.2⟩
          case measure => simp [intOf]; omega
        · obtain rfl : k = 20 := by omega
          go_wp2
          go_ret2
          exact ⟨_, rfl, by rw [← HL.out, ← il_all, HLN.out]; exact HO.out, hnx⟩
set_option maxHeartbeats 2000000 in
theorem refPlaces_6 (w : World) : Calls Tryd.prog 32 #[.string ⟨#[74]⟩] w (PlPost w (placesOf 6) (signedOf 6)) := by
  go_enter Tryd.func32, Tryd.ntmps32
  go_wp2
  go_ret2
  exact ⟨_, rfl, World.ownsRow_lit w #[.int .i64 (-1), .int .i64 (21), .int .i64 (22), .int .i64 (23), .int .i64 (24), .int .i64 (25), .int .i64 (26), .int .i64 (27), .int .i64 (28), .int .i64 (29), .int .i64 (30), .int .i64 (20), .int .i64 (12), .int .i64 (13), .int .i64 (14), .int .i64 (15), .int .i64 (16), .int .i64 (17), .int .i64 (18), .int .i64 (19), .int .i64 (31)] 21 (Nat.le_refl _) (by decide) (by decide), bel1 w _⟩
set_option maxHeartbeats 2000000 in
theorem refPlaces_7 (w : World) : Calls Tryd.prog 32 #[.string ⟨#[83, 104, 105, 102, 116]⟩] w (PlPost w (placesOf 7) (signedOf 7)) := by
  go_enter Tryd.func32, Tryd.ntmps32
  go_wp2
  go_ret2
  exact ⟨_, rfl, World.ownsRow_lit w #[.int .i64 (20), .int .i64 (21), .int .i64 (22), .int .i64 (23), .int .i64 (24), .int .i64 (25)] 6 (Nat.le_refl _) (by decide) (by decide), bel1 w _⟩
set_option maxHeartbeats 2000000 in
theorem refPlaces_8 (w : World) : Calls Tryd.prog 32 #[.string ⟨#[83, 104, 105, 102, 116, 87]⟩] w (PlPost w (placesOf 8) (signedOf 8)) := by
  go_enter Tryd.func32, Tryd.ntmps32
  go_wp2
  go_ret2
  exact ⟨_, rfl, World.ownsRow_lit w #[.int .i64 (20), .int .i64 (21), .int .i64 (22), .int .i64 (23), .int .i64 (24)] 5 (Nat.le_refl _) (by decide) (by decide), bel1 w _⟩
set_option maxHeartbeats 2000000 in
theorem refPlaces_9 (w : World) : Calls Tryd.prog 32 #[.string ⟨#[67, 115, 114]⟩] w (PlPost w (placesOf 9) (signedOf 9)) := by
  go_enter Tryd.func32, Tryd.ntmps32
  go_wp2
  go_ret2
  exact ⟨_, rfl, World.ownsRow_nil _ _ _ _, Below.refl _ _⟩
set_option maxHeartbeats 2000000 in
theorem refPlaces_10 (w : World) : Calls Tryd.prog 32 #[.string ⟨#[67, 115, 114, 73]⟩] w (PlPost w (placesOf 10) (signedOf 10)) := by
  go_enter Tryd.func32, Tryd.ntmps32
  go_wp2
  go_ret2
  exact ⟨_, rfl, World.ownsRow_nil _ _ _ _, Below.refl _ _⟩
set_option maxHeartbeats 2000000 in
theorem refPlaces_11 (w : World) : Calls Tryd.prog 32 #[.string ⟨#[65]⟩] w (PlPost w (placesOf 11) (signedOf 11)) := by
  go_enter Tryd.func32, Tryd.ntmps32
  go_wp2
  go_ret2
  exact ⟨_, rfl, World.ownsRow_nil _ _ _ _, Below.refl _ _⟩
set_option maxHeartbeats 2000000 in
theorem refPlaces_12 (w : World) : Calls Tryd.prog 32 #[.string ⟨#[76, 114]⟩] w (PlPost w (placesOf 12) (signedOf 12)) := by
  go_enter Tryd.func32, Tryd.ntmps32
  go_wp2
  go_ret2
  exact ⟨_, rfl, World.ownsRow_nil _ _ _ _, Below.refl _ _⟩
set_option maxHeartbeats 2000000 in
theorem refPlaces_13 (w : World) : Calls Tryd.prog 32 #[.string ⟨#[66, 97, 114, 101]⟩] w (PlPost w (placesOf 13) (signedOf 13)) := by
  go_enter Tryd.func32, Tryd.ntmps32
  go_wp2
  go_ret2
  exact ⟨_, rfl, World.ownsRow_nil _ _ _ _, Below.refl _ _⟩
set_option maxHeartbeats 2000000 in
theorem refPlaces_14 (w : World) : Calls Tryd.prog 32 #[.string ⟨#[83, 102, 101, 110, 99, 101]⟩] w (PlPost w (placesOf 14) (signedOf 14)) := by
  go_enter Tryd.func32, Tryd.ntmps32
  go_wp2
  go_ret2
  exact ⟨_, rfl, World.ownsRow_nil _ _ _ _, Below.refl _ _⟩
theorem refPlaces_c (f : Nat) (hf : f < 15) (w : World) : Calls Tryd.prog 32 #[strV (Tab.names3.getD f [])] w (PlPost w (placesOf f) (signedOf f)) := by
  match f, hf with
  | 0, _ => exact refPlaces_0 w
  | 1, _ => exact refPlaces_1 w
  | 2, _ => exact refPlaces_2 w
  | 3, _ => exact refPlaces_3 w
  | 4, _ => exact refPlaces_4 w
  | 5, _ => exact refPlaces_5 w
  | 6, _ => exact refPlaces_6 w
  | 7, _ => exact refPlaces_7 w
  | 8, _ => exact refPlaces_8 w
  | 9, _ => exact refPlaces_9 w
  | 10, _ => exact refPlaces_10 w
  | 11, _ => exact refPlaces_11 w
  | 12, _ => exact refPlaces_12 w
  | 13, _ => exact refPlaces_13 w
  | 14, _ => exact refPlaces_14 w
end Go.Proofs.YteknlcigfjdmdaaDoor
