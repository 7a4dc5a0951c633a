/-
  The contract of the reference's Has (layer 3): has a format a field? The contract of the reference's masked (layer 3): the bits of a word that a mask has, the lowest 32. What the contract of the reference's Decode (layer 3) leans on.
-/
import Derived.Test.YthehcplogkgkeaaGreatDoorQa
import Derived.Test.YthehcplogkgkeaaGreatDoorQc
import Derived.Deep.RegionHeld3
import Derived.Deep.DeepCutAuto
import Derived.BigRegion
set_option maxRecDepth 4000
namespace Go.Proofs.YthehcplogkgkeaaGreatDoor
open Go.ChangeShapes Go.WideShapes Go.ChangeAt Go.RowKit Wd

/-- The fields of each format, by its number, as bytes. -/
def fieldsOf (f : Nat) : List Int := match f with
  | 1 => [100, 49, 50]
  | 2 => [100, 49, 105]
  | 3 => [49, 50, 105]
  | 4 => [49, 50, 105]
  | 5 => [100, 105]
  | 6 => [100, 105]
  | 7 => [100, 49, 105]
  | 8 => [100, 49, 105]
  | 9 => [100, 49, 99]
  | 10 => [100, 49, 99]
  | 11 => [100, 49, 50, 113]
  | 12 => [100, 49, 113]
  | 14 => [49, 50]
  | _ => []
def hasF (f : Nat) (c : Int) : Bool := (fieldsOf f).any (· == c)

set_option maxHeartbeats 1000000 in
theorem refHas_0 (c : Int) (w : World) : Calls Tryz.prog 51 #[.string ⟨#[]⟩, .int .u8 c] w fun e w' => e = .returned (.bool (hasF 0 c)) ∧ w = w' := by
  have HF := Lib.hid (show false = hasF 0 c from rfl)
  go_enter Tryz.func51, Tryz.ntmps51
  go_wp2
  go_loop [6] (fun i => i = .int .i64 0) (fun _ => 0)
  case atStart => rfl
  case round =>
    obtain rfl := hrel
    go_wp2
    go_ret
    exact ⟨ret_b HF.out, rfl⟩
set_option maxHeartbeats 1000000 in
theorem refHas_1 (c : Int) (w : World) : Calls Tryz.prog 51 #[.string ⟨#[82]⟩, .int .u8 c] w fun e w' => e = .returned (.bool (hasF 1 c)) ∧ w = w' := by
  by_cases h0 : c = 100
  · have HF := Lib.hid (show true = hasF 1 c from by rw [h0]; rfl)
    subst h0
    go_enter Tryz.func51, Tryz.ntmps51
    go_wp2
    go_loop [6] (fun i => i = .int .i64 0) (fun i => 4 - (intOf i).toNat)
    case atStart => exact rfl
    case round =>
      obtain rfl := hrel
      · go_wp2
        go_ret
        exact ⟨ret_b HF.out, rfl⟩
  · have g0 : ((100 : Int) == c) = false := by simp; omega
    by_cases h1 : c = 49
    · have HF := Lib.hid (show true = hasF 1 c from by rw [h1]; rfl)
      subst h1
      go_enter Tryz.func51, Tryz.ntmps51
      go_wp2
      go_loop [6] (fun i => i = .int .i64 0 ∨ i = .int .i64 1) (fun i => 4 - (intOf i).toNat)
      case atStart => exact .inl rfl
      case round =>
        rcases hrel with rfl | rfl
        · go_wp2
          go_round
          case rel => exact .inr rfl
          case measure => simp [intOf]
        · go_wp2
          go_ret
          exact ⟨ret_b HF.out, rfl⟩
    · have g1 : ((49 : Int) == c) = false := by simp; omega
      by_cases h2 : c = 50
      · have HF := Lib.hid (show true = hasF 1 c from by rw [h2]; rfl)
        subst h2
        go_enter Tryz.func51, Tryz.ntmps51
        go_wp2
        go_loop [6] (fun i => i = .int .i64 0 ∨ i = .int .i64 1 ∨ i = .int .i64 2) (fun i => 4 - (intOf i).toNat)
        case atStart => exact .inl rfl
        case round =>
          rcases hrel with rfl | rfl | rfl
          · go_wp2
            go_round
            case rel => exact .inr (.inl rfl)
            case measure => simp [intOf]
          · go_wp2
            go_round
            case rel => exact .inr (.inr rfl)
            case measure => simp [intOf]
          · go_wp2
            go_ret
            exact ⟨ret_b HF.out, rfl⟩
      · have g2 : ((50 : Int) == c) = false := by simp; omega
        have HF := Lib.hid (show false = hasF 1 c from by simp [hasF, fieldsOf]; omega)
        have e0 : ((((⟨#[100, 49, 50]⟩ : ByteArray)[0]'(by decide)).toNat : Int) == c) = false := g0
        have e1 : ((((⟨#[100, 49, 50]⟩ : ByteArray)[1]'(by decide)).toNat : Int) == c) = false := g1
        have e2 : ((((⟨#[100, 49, 50]⟩ : ByteArray)[2]'(by decide)).toNat : Int) == c) = false := g2
        go_enter Tryz.func51, Tryz.ntmps51
        go_wp2
        go_loop [6] (fun i => i = .int .i64 0 ∨ i = .int .i64 1 ∨ i = .int .i64 2 ∨ i = .int .i64 3) (fun i => 4 - (intOf i).toNat)
        case atStart => exact .inl rfl
        case round =>
          rcases hrel with rfl | rfl | rfl | rfl
          · go_wp2
            go_round
            case rel => exact .inr (.inl rfl)
            case measure => simp [intOf]
          · go_wp2
            go_round
            case rel => exact .inr (.inr (.inl rfl))
            case measure => simp [intOf]
          · go_wp2
            go_round
            case rel => exact .inr (.inr (.inr rfl))
            case measure => simp [intOf]
          · go_wp2
            go_ret
            exact ⟨ret_b HF.out, rfl⟩
set_option maxHeartbeats 1000000 in
theorem refHas_2 (c : Int) (w : World) : Calls Tryz.prog 51 #[.string ⟨#[73]⟩, .int .u8 c] w fun e w' => e = .returned (.bool (hasF 2 c)) ∧ w = w' := by
  by_cases h0 : c = 100
  · have HF := Lib.hid (show true = hasF 2 c from by rw [h0]; rfl)
    subst h0
    go_enter Tryz.func51, Tryz.ntmps51
    go_wp2
    go_loop [6] (fun i => i = .int .i64 0) (fun i => 4 - (intOf i).toNat)
    case atStart => exact rfl
    case round =>
      obtain rfl := hrel
      · go_wp2
        go_ret
        exact ⟨ret_b HF.out, rfl⟩
  · have g0 : ((100 : Int) == c) = false := by simp; omega
    by_cases h1 : c = 49
    · have HF := Lib.hid (show true = hasF 2 c from by rw [h1]; rfl)
      subst h1
      go_enter Tryz.func51, Tryz.ntmps51
      go_wp2
      go_loop [6] (fun i => i = .int .i64 0 ∨ i = .int .i64 1) (fun i => 4 - (intOf i).toNat)
      case atStart => exact .inl rfl
      case round =>
        rcases hrel with rfl | rfl
        · go_wp2
          go_round
          case rel => exact .inr rfl
          case measure => simp [intOf]
        · go_wp2
          go_ret
          exact ⟨ret_b HF.out, rfl⟩
    · have g1 : ((49 : Int) == c) = false := by simp; omega
      by_cases h2 : c = 105
      · have HF := Lib.hid (show true = hasF 2 c from by rw [h2]; rfl)
        subst h2
        go_enter Tryz.func51, Tryz.ntmps51
        go_wp2
        go_loop [6] (fun i => i = .int .i64 0 ∨ i = .int .i64 1 ∨ i = .int .i64 2) (fun i => 4 - (intOf i).toNat)
        case atStart => exact .inl rfl
        case round =>
          rcases hrel with rfl | rfl | rfl
          · go_wp2
            go_round
            case rel => exact .inr (.inl rfl)
            case measure => simp [intOf]
          · go_wp2
            go_round
            case rel => exact .inr (.inr rfl)
            case measure => simp [intOf]
          · go_wp2
            go_ret
            exact ⟨ret_b HF.out, rfl⟩
      · have g2 : ((105 : Int) == c) = false := by simp; omega
        have HF := Lib.hid (show false = hasF 2 c from by simp [hasF, fieldsOf]; omega)
        have e0 : ((((⟨#[100, 49, 105]⟩ : ByteArray)[0]'(by decide)).toNat : Int) == c) = false := g0
        have e1 : ((((⟨#[100, 49, 105]⟩ : ByteArray)[1]'(by decide)).toNat : Int) == c) = false := g1
        have e2 : ((((⟨#[100, 49, 105]⟩ : ByteArray)[2]'(by decide)).toNat : Int) == c) = false := g2
        go_enter Tryz.func51, Tryz.ntmps51
        go_wp2
        go_loop [6] (fun i => i = .int .i64 0 ∨ i = .int .i64 1 ∨ i = .int .i64 2 ∨ i = .int .i64 3) (fun i => 4 - (intOf i).toNat)
        case atStart => exact .inl rfl
        case round =>
          rcases hrel with rfl | rfl | rfl | rfl
          · go_wp2
            go_round
            case rel => exact .inr (.inl rfl)
            case measure => simp [intOf]
          · go_wp2
            go_round
            case rel => exact .inr (.inr (.inl rfl))
            case measure => simp [intOf]
          · go_wp2
            go_round
            case rel => exact .inr (.inr (.inr rfl))
            case measure => simp [intOf]
          · go_wp2
            go_ret
            exact ⟨ret_b HF.out, rfl⟩
set_option maxHeartbeats 1000000 in
theorem refHas_3 (c : Int) (w : World) : Calls Tryz.prog 51 #[.string ⟨#[83]⟩, .int .u8 c] w fun e w' => e = .returned (.bool (hasF 3 c)) ∧ w = w' := by
  by_cases h0 : c = 49
  · have HF := Lib.hid (show true = hasF 3 c from by rw [h0]; rfl)
    subst h0
    go_enter Tryz.func51, Tryz.ntmps51
    go_wp2
    go_loop [6] (fun i => i = .int .i64 0) (fun i => 4 - (intOf i).toNat)
    case atStart => exact rfl
    case round =>
      obtain rfl := hrel
      · go_wp2
        go_ret
        exact ⟨ret_b HF.out, rfl⟩
  · have g0 : ((49 : Int) == c) = false := by simp; omega
    by_cases h1 : c = 50
    · have HF := Lib.hid (show true = hasF 3 c from by rw [h1]; rfl)
      subst h1
      go_enter Tryz.func51, Tryz.ntmps51
      go_wp2
      go_loop [6] (fun i => i = .int .i64 0 ∨ i = .int .i64 1) (fun i => 4 - (intOf i).toNat)
      case atStart => exact .inl rfl
      case round =>
        rcases hrel with rfl | rfl
        · go_wp2
          go_round
          case rel => exact .inr rfl
          case measure => simp [intOf]
        · go_wp2
          go_ret
          exact ⟨ret_b HF.out, rfl⟩
    · have g1 : ((50 : Int) == c) = false := by simp; omega
      by_cases h2 : c = 105
      · have HF := Lib.hid (show true = hasF 3 c from by rw [h2]; rfl)
        subst h2
        go_enter Tryz.func51, Tryz.ntmps51
        go_wp2
        go_loop [6] (fun i => i = .int .i64 0 ∨ i = .int .i64 1 ∨ i = .int .i64 2) (fun i => 4 - (intOf i).toNat)
        case atStart => exact .inl rfl
        case round =>
          rcases hrel with rfl | rfl | rfl
          · go_wp2
            go_round
            case rel => exact .inr (.inl rfl)
            case measure => simp [intOf]
          · go_wp2
            go_round
            case rel => exact .inr (.inr rfl)
            case measure => simp [intOf]
          · go_wp2
            go_ret
            exact ⟨ret_b HF.out, rfl⟩
      · have g2 : ((105 : Int) == c) = false := by simp; omega
        have HF := Lib.hid (show false = hasF 3 c from by simp [hasF, fieldsOf]; omega)
        have e0 : ((((⟨#[49, 50, 105]⟩ : ByteArray)[0]'(by decide)).toNat : Int) == c) = false := g0
        have e1 : ((((⟨#[49, 50, 105]⟩ : ByteArray)[1]'(by decide)).toNat : Int) == c) = false := g1
        have e2 : ((((⟨#[49, 50, 105]⟩ : ByteArray)[2]'(by decide)).toNat : Int) == c) = false := g2
        go_enter Tryz.func51, Tryz.ntmps51
        go_wp2
        go_loop [6] (fun i => i = .int .i64 0 ∨ i = .int .i64 1 ∨ i = .int .i64 2 ∨ i = .int .i64 3) (fun i => 4 - (intOf i).toNat)
        case atStart => exact .inl rfl
        case round =>
          rcases hrel with rfl | rfl | rfl | rfl
          · go_wp2
            go_round
            case rel => exact .inr (.inl rfl)
            case measure => simp [intOf]
          · go_wp2
            go_round
            case rel => exact .inr (.inr (.inl rfl))
            case measure => simp [intOf]
          · go_wp2
            go_round
            case rel => exact .inr (.inr (.inr rfl))
            case measure => simp [intOf]
          · go_wp2
            go_ret
            exact ⟨ret_b HF.out, rfl⟩
set_option maxHeartbeats 1000000 in
theorem refHas_4 (c : Int) (w : World) : Calls Tryz.prog 51 #[.string ⟨#[66]⟩, .int .u8 c] w fun e w' => e = .returned (.bool (hasF 4 c)) ∧ w = w' := by
  by_cases h0 : c = 49
  · have HF := Lib.hid (show true = hasF 4 c from by rw [h0]; rfl)
    subst h0
    go_enter Tryz.func51, Tryz.ntmps51
    go_wp2
    go_loop [6] (fun i => i = .int .i64 0) (fun i => 4 - (intOf i).toNat)
    case atStart => exact rfl
    case round =>
      obtain rfl := hrel
      · go_wp2
        go_ret
        exact ⟨ret_b HF.out, rfl⟩
  · have g0 : ((49 : Int) == c) = false := by simp; omega
    by_cases h1 : c = 50
    · have HF := Lib.hid (show true = hasF 4 c from by rw [h1]; rfl)
      subst h1
      go_enter Tryz.func51, Tryz.ntmps51
      go_wp2
      go_loop [6] (fun i => i = .int .i64 0 ∨ i = .int .i64 1) (fun i => 4 - (intOf i).toNat)
      case atStart => exact .inl rfl
      case round =>
        rcases hrel with rfl | rfl
        · go_wp2
          go_round
          case rel => exact .inr rfl
          case measure => simp [intOf]
        · go_wp2
          go_ret
          exact ⟨ret_b HF.out, rfl⟩
    · have g1 : ((50 : Int) == c) = false := by simp; omega
      by_cases h2 : c = 105
      · have HF := Lib.hid (show true = hasF 4 c from by rw [h2]; rfl)
        subst h2
        go_enter Tryz.func51, Tryz.ntmps51
        go_wp2
        go_loop [6] (fun i => i = .int .i64 0 ∨ i = .int .i64 1 ∨ i = .int .i64 2) (fun i => 4 - (intOf i).toNat)
        case atStart => exact .inl rfl
        case round =>
          rcases hrel with rfl | rfl | rfl
          · go_wp2
            go_round
            case rel => exact .inr (.inl rfl)
            case measure => simp [intOf]
          · go_wp2
            go_round
            case rel => exact .inr (.inr rfl)
            case measure => simp [intOf]
          · go_wp2
            go_ret
            exact ⟨ret_b HF.out, rfl⟩
      · have g2 : ((105 : Int) == c) = false := by simp; omega
        have HF := Lib.hid (show false = hasF 4 c from by simp [hasF, fieldsOf]; omega)
        have e0 : ((((⟨#[49, 50, 105]⟩ : ByteArray)[0]'(by decide)).toNat : Int) == c) = false := g0
        have e1 : ((((⟨#[49, 50, 105]⟩ : ByteArray)[1]'(by decide)).toNat : Int) == c) = false := g1
        have e2 : ((((⟨#[49, 50, 105]⟩ : ByteArray)[2]'(by decide)).toNat : Int) == c) = false := g2
        go_enter Tryz.func51, Tryz.ntmps51
        go_wp2
        go_loop [6] (fun i => i = .int .i64 0 ∨ i = .int .i64 1 ∨ i = .int .i64 2 ∨ i = .int .i64 3) (fun i => 4 - (intOf i).toNat)
        case atStart => exact .inl rfl
        case round =>
          rcases hrel with rfl | rfl | rfl | rfl
          · go_wp2
            go_round
            case rel => exact .inr (.inl rfl)
            case measure => simp [intOf]
          · go_wp2
            go_round
            case rel => exact .inr (.inr (.inl rfl))
            case measure => simp [intOf]
          · go_wp2
            go_round
            case rel => exact .inr (.inr (.inr rfl))
            case measure => simp [intOf]
          · go_wp2
            go_ret
            exact ⟨ret_b HF.out, rfl⟩
set_option maxHeartbeats 1000000 in
theorem refHas_5 (c : Int) (w : World) : Calls Tryz.prog 51 #[.string ⟨#[85]⟩, .int .u8 c] w fun e w' => e = .returned (.bool (hasF 5 c)) ∧ w = w' := by
  by_cases h0 : c = 100
  · have HF := Lib.hid (show true = hasF 5 c from by rw [h0]; rfl)
    subst h0
    go_enter Tryz.func51, Tryz.ntmps51
    go_wp2
    go_loop [6] (fun i => i = .int .i64 0) (fun i => 3 - (intOf i).toNat)
    case atStart => exact rfl
    case round =>
      obtain rfl := hrel
      · go_wp2
        go_ret
        exact ⟨ret_b HF.out, rfl⟩
  · have g0 : ((100 : Int) == c) = false := by simp; omega
    by_cases h1 : c = 105
    · have HF := Lib.hid (show true = hasF 5 c from by rw [h1]; rfl)
      subst h1
      go_enter Tryz.func51, Tryz.ntmps51
      go_wp2
      go_loop [6] (fun i => i = .int .i64 0 ∨ i = .int .i64 1) (fun i => 3 - (intOf i).toNat)
      case atStart => exact .inl rfl
      case round =>
        rcases hrel with rfl | rfl
        · go_wp2
          go_round
          case rel => exact .inr rfl
          case measure => simp [intOf]
        · go_wp2
          go_ret
          exact ⟨ret_b HF.out, rfl⟩
    · have g1 : ((105 : Int) == c) = false := by simp; omega
      have HF := Lib.hid (show false = hasF 5 c from by simp [hasF, fieldsOf]; omega)
      have e0 : ((((⟨#[100, 105]⟩ : ByteArray)[0]'(by decide)).toNat : Int) == c) = false := g0
      have e1 : ((((⟨#[100, 105]⟩ : ByteArray)[1]'(by decide)).toNat : Int) == c) = false := g1
      go_enter Tryz.func51, Tryz.ntmps51
      go_wp2
      go_loop [6] (fun i => i = .int .i64 0 ∨ i = .int .i64 1 ∨ i = .int .i64 2) (fun i => 3 - (intOf i).toNat)
      case atStart => exact .inl rfl
      case round =>
        rcases hrel with rfl | rfl | rfl
        · go_wp2
          go_round
          case rel => exact .inr (.inl rfl)
          case measure => simp [intOf]
        · go_wp2
          go_round
          case rel => exact .inr (.inr rfl)
          case measure => simp [intOf]
        · go_wp2
          go_ret
          exact ⟨ret_b HF.out, rfl⟩
set_option maxHeartbeats 1000000 in
theorem refHas_6 (c : Int) (w : World) : Calls Tryz.prog 51 #[.string ⟨#[74]⟩, .int .u8 c] w fun e w' => e = .returned (.bool (hasF 6 c)) ∧ w = w' := by
  by_cases h0 : c = 100
  · have HF := Lib.hid (show true = hasF 6 c from by rw [h0]; rfl)
    subst h0
    go_enter Tryz.func51, Tryz.ntmps51
    go_wp2
    go_loop [6] (fun i => i = .int .i64 0) (fun i => 3 - (intOf i).toNat)
    case atStart => exact rfl
    case round =>
      obtain rfl := hrel
      · go_wp2
        go_ret
        exact ⟨ret_b HF.out, rfl⟩
  · have g0 : ((100 : Int) == c) = false := by simp; omega
    by_cases h1 : c = 105
    · have HF := Lib.hid (show true = hasF 6 c from by rw [h1]; rfl)
      subst h1
      go_enter Tryz.func51, Tryz.ntmps51
      go_wp2
      go_loop [6] (fun i => i = .int .i64 0 ∨ i = .int .i64 1) (fun i => 3 - (intOf i).toNat)
      case atStart => exact .inl rfl
      case round =>
        rcases hrel with rfl | rfl
        · go_wp2
          go_round
          case rel => exact .inr rfl
          case measure => simp [intOf]
        · go_wp2
          go_ret
          exact ⟨ret_b HF.out, rfl⟩
    · have g1 : ((105 : Int) == c) = false := by simp; omega
      have HF := Lib.hid (show false = hasF 6 c from by simp [hasF, fieldsOf]; omega)
      have e0 : ((((⟨#[100, 105]⟩ : ByteArray)[0]'(by decide)).toNat : Int) == c) = false := g0
      have e1 : ((((⟨#[100, 105]⟩ : ByteArray)[1]'(by decide)).toNat : Int) == c) = false := g1
      go_enter Tryz.func51, Tryz.ntmps51
      go_wp2
      go_loop [6] (fun i => i = .int .i64 0 ∨ i = .int .i64 1 ∨ i = .int .i64 2) (fun i => 3 - (intOf i).toNat)
      case atStart => exact .inl rfl
      case round =>
        rcases hrel with rfl | rfl | rfl
        · go_wp2
          go_round
          case rel => exact .inr (.inl rfl)
          case measure => simp [intOf]
        · go_wp2
          go_round
          case rel => exact .inr (.inr rfl)
          case measure => simp [intOf]
        · go_wp2
          go_ret
          exact ⟨ret_b HF.out, rfl⟩
set_option maxHeartbeats 1000000 in
theorem refHas_7 (c : Int) (w : World) : Calls Tryz.prog 51 #[.string ⟨#[83, 104, 105, 102, 116]⟩, .int .u8 c] w fun e w' => e = .returned (.bool (hasF 7 c)) ∧ w = w' := by
  by_cases h0 : c = 100
  · have HF := Lib.hid (show true = hasF 7 c from by rw [h0]; rfl)
    subst h0
    go_enter Tryz.func51, Tryz.ntmps51
    go_wp2
    go_loop [6] (fun i => i = .int .i64 0) (fun i => 4 - (intOf i).toNat)
    case atStart => exact rfl
    case round =>
      obtain rfl := hrel
      · go_wp2
        go_ret
        exact ⟨ret_b HF.out, rfl⟩
  · have g0 : ((100 : Int) == c) = false := by simp; omega
    by_cases h1 : c = 49
    · have HF := Lib.hid (show true = hasF 7 c from by rw [h1]; rfl)
      subst h1
      go_enter Tryz.func51, Tryz.ntmps51
      go_wp2
      go_loop [6] (fun i => i = .int .i64 0 ∨ i = .int .i64 1) (fun i => 4 - (intOf i).toNat)
      case atStart => exact .inl rfl
      case round =>
        rcases hrel with rfl | rfl
        · go_wp2
          go_round
          case rel => exact .inr rfl
          case measure => simp [intOf]
        · go_wp2
          go_ret
          exact ⟨ret_b HF.out, rfl⟩
    · have g1 : ((49 : Int) == c) = false := by simp; omega
      by_cases h2 : c = 105
      · have HF := Lib.hid (show true = hasF 7 c from by rw [h2]; rfl)
        subst h2
        go_enter Tryz.func51, Tryz.ntmps51
        go_wp2
        go_loop [6] (fun i => i = .int .i64 0 ∨ i = .int .i64 1 ∨ i = .int .i64 2) (fun i => 4 - (intOf i).toNat)
        case atStart => exact .inl rfl
        case round =>
          rcases hrel with rfl | rfl | rfl
          · go_wp2
            go_round
            case rel => exact .inr (.inl rfl)
            case measure => simp [intOf]
          · go_wp2
            go_round
            case rel => exact .inr (.inr rfl)
            case measure => simp [intOf]
          · go_wp2
            go_ret
            exact ⟨ret_b HF.out, rfl⟩
      · have g2 : ((105 : Int) == c) = false := by simp; omega
        have HF := Lib.hid (show false = hasF 7 c from by simp [hasF, fieldsOf]; omega)
        have e0 : ((((⟨#[100, 49, 105]⟩ : ByteArray)[0]'(by decide)).toNat : Int) == c) = false := g0
        have e1 : ((((⟨#[100, 49, 105]⟩ : ByteArray)[1]'(by decide)).toNat : Int) == c) = false := g1
        have e2 : ((((⟨#[100, 49, 105]⟩ : ByteArray)[2]'(by decide)).toNat : Int) == c) = false := g2
        go_enter Tryz.func51, Tryz.ntmps51
        go_wp2
        go_loop [6] (fun i => i = .int .i64 0 ∨ i = .int .i64 1 ∨ i = .int .i64 2 ∨ i = .int .i64 3) (fun i => 4 - (intOf i).toNat)
        case atStart => exact .inl rfl
        case round =>
          rcases hrel with rfl | rfl | rfl | rfl
          · go_wp2
            go_round
            case rel => exact .inr (.inl rfl)
            case measure => simp [intOf]
          · go_wp2
            go_round
            case rel => exact .inr (.inr (.inl rfl))
            case measure => simp [intOf]
          · go_wp2
            go_round
            case rel => exact .inr (.inr (.inr rfl))
            case measure => simp [intOf]
          · go_wp2
            go_ret
            exact ⟨ret_b HF.out, rfl⟩
set_option maxHeartbeats 1000000 in
theorem refHas_8 (c : Int) (w : World) : Calls Tryz.prog 51 #[.string ⟨#[83, 104, 105, 102, 116, 87]⟩, .int .u8 c] w fun e w' => e = .returned (.bool (hasF 8 c)) ∧ w = w' := by
  by_cases h0 : c = 100
  · have HF := Lib.hid (show true = hasF 8 c from by rw [h0]; rfl)
    subst h0
    go_enter Tryz.func51, Tryz.ntmps51
    go_wp2
    go_loop [6] (fun i => i = .int .i64 0) (fun i => 4 - (intOf i).toNat)
    case atStart => exact rfl
    case round =>
      obtain rfl := hrel
      · go_wp2
        go_ret
        exact ⟨ret_b HF.out, rfl⟩
  · have g0 : ((100 : Int) == c) = false := by simp; omega
    by_cases h1 : c = 49
    · have HF := Lib.hid (show true = hasF 8 c from by rw [h1]; rfl)
      subst h1
      go_enter Tryz.func51, Tryz.ntmps51
      go_wp2
      go_loop [6] (fun i => i = .int .i64 0 ∨ i = .int .i64 1) (fun i => 4 - (intOf i).toNat)
      case atStart => exact .inl rfl
      case round =>
        rcases hrel with rfl | rfl
        · go_wp2
          go_round
          case rel => exact .inr rfl
          case measure => simp [intOf]
        · go_wp2
          go_ret
          exact ⟨ret_b HF.out, rfl⟩
    · have g1 : ((49 : Int) == c) = false := by simp; omega
      by_cases h2 : c = 105
      · have HF := Lib.hid (show true = hasF 8 c from by rw [h2]; rfl)
        subst h2
        go_enter Tryz.func51, Tryz.ntmps51
        go_wp2
        go_loop [6] (fun i => i = .int .i64 0 ∨ i = .int .i64 1 ∨ i = .int .i64 2) (fun i => 4 - (intOf i).toNat)
        case atStart => exact .inl rfl
        case round =>
          rcases hrel with rfl | rfl | rfl
          · go_wp2
            go_round
            case rel => exact .inr (.inl rfl)
            case measure => simp [intOf]
          · go_wp2
            go_round
            case rel => exact .inr (.inr rfl)
            case measure => simp [intOf]
          · go_wp2
            go_ret
            exact ⟨ret_b HF.out, rfl⟩
      · have g2 : ((105 : Int) == c) = false := by simp; omega
        have HF := Lib.hid (show false = hasF 8 c from by simp [hasF, fieldsOf]; omega)
        have e0 : ((((⟨#[100, 49, 105]⟩ : ByteArray)[0]'(by decide)).toNat : Int) == c) = false := g0
        have e1 : ((((⟨#[100, 49, 105]⟩ : ByteArray)[1]'(by decide)).toNat : Int) == c) = false := g1
        have e2 : ((((⟨#[100, 49, 105]⟩ : ByteArray)[2]'(by decide)).toNat : Int) == c) = false := g2
        go_enter Tryz.func51, Tryz.ntmps51
        go_wp2
        go_loop [6] (fun i => i = .int .i64 0 ∨ i = .int .i64 1 ∨ i = .int .i64 2 ∨ i = .int .i64 3) (fun i => 4 - (intOf i).toNat)
        case atStart => exact .inl rfl
        case round =>
          rcases hrel with rfl | rfl | rfl | rfl
          · go_wp2
            go_round
            case rel => exact .inr (.inl rfl)
            case measure => simp [intOf]
          · go_wp2
            go_round
            case rel => exact .inr (.inr (.inl rfl))
            case measure => simp [intOf]
          · go_wp2
            go_round
            case rel => exact .inr (.inr (.inr rfl))
            case measure => simp [intOf]
          · go_wp2
            go_ret
            exact ⟨ret_b HF.out, rfl⟩
set_option maxHeartbeats 1000000 in
theorem refHas_9 (c : Int) (w : World) : Calls Tryz.prog 51 #[.string ⟨#[67, 115, 114]⟩, .int .u8 c] w fun e w' => e = .returned (.bool (hasF 9 c)) ∧ w = w' := by
  by_cases h0 : c = 100
  · have HF := Lib.hid (show true = hasF 9 c from by rw [h0]; rfl)
    subst h0
    go_enter Tryz.func51, Tryz.ntmps51
    go_wp2
    go_loop [6] (fun i => i = .int .i64 0) (fun i => 4 - (intOf i).toNat)
    case atStart => exact rfl
    case round =>
      obtain rfl := hrel
      · go_wp2
        go_ret
        exact ⟨ret_b HF.out, rfl⟩
  · have g0 : ((100 : Int) == c) = false := by simp; omega
    by_cases h1 : c = 49
    · have HF := Lib.hid (show true = hasF 9 c from by rw [h1]; rfl)
      subst h1
      go_enter Tryz.func51, Tryz.ntmps51
      go_wp2
      go_loop [6] (fun i => i = .int .i64 0 ∨ i = .int .i64 1) (fun i => 4 - (intOf i).toNat)
      case atStart => exact .inl rfl
      case round =>
        rcases hrel with rfl | rfl
        · go_wp2
          go_round
          case rel => exact .inr rfl
          case measure => simp [intOf]
        · go_wp2
          go_ret
          exact ⟨ret_b HF.out, rfl⟩
    · have g1 : ((49 : Int) == c) = false := by simp; omega
      by_cases h2 : c = 99
      · have HF := Lib.hid (show true = hasF 9 c from by rw [h2]; rfl)
        subst h2
        go_enter Tryz.func51, Tryz.ntmps51
        go_wp2
        go_loop [6] (fun i => i = .int .i64 0 ∨ i = .int .i64 1 ∨ i = .int .i64 2) (fun i => 4 - (intOf i).toNat)
        case atStart => exact .inl rfl
        case round =>
          rcases hrel with rfl | rfl | rfl
          · go_wp2
            go_round
            case rel => exact .inr (.inl rfl)
            case measure => simp [intOf]
          · go_wp2
            go_round
            case rel => exact .inr (.inr rfl)
            case measure => simp [intOf]
          · go_wp2
            go_ret
            exact ⟨ret_b HF.out, rfl⟩
      · have g2 : ((99 : Int) == c) = false := by simp; omega
        have HF := Lib.hid (show false = hasF 9 c from by simp [hasF, fieldsOf]; omega)
        have e0 : ((((⟨#[100, 49, 99]⟩ : ByteArray)[0]'(by decide)).toNat : Int) == c) = false := g0
        have e1 : ((((⟨#[100, 49, 99]⟩ : ByteArray)[1]'(by decide)).toNat : Int) == c) = false := g1
        have e2 : ((((⟨#[100, 49, 99]⟩ : ByteArray)[2]'(by decide)).toNat : Int) == c) = false := g2
        go_enter Tryz.func51, Tryz.ntmps51
        go_wp2
        go_loop [6] (fun i => i = .int .i64 0 ∨ i = .int .i64 1 ∨ i = .int .i64 2 ∨ i = .int .i64 3) (fun i => 4 - (intOf i).toNat)
        case atStart => exact .inl rfl
        case round =>
          rcases hrel with rfl | rfl | rfl | rfl
          · go_wp2
            go_round
            case rel => exact .inr (.inl rfl)
            case measure => simp [intOf]
          · go_wp2
            go_round
            case rel => exact .inr (.inr (.inl rfl))
            case measure => simp [intOf]
          · go_wp2
            go_round
            case rel => exact .inr (.inr (.inr rfl))
            case measure => simp [intOf]
          · go_wp2
            go_ret
            exact ⟨ret_b HF.out, rfl⟩
set_option maxHeartbeats 1000000 in
theorem refHas_10 (c : Int) (w : World) : Calls Tryz.prog 51 #[.string ⟨#[67, 115, 114, 73]⟩, .int .u8 c] w fun e w' => e = .returned (.bool (hasF 10 c)) ∧ w = w' := by
  by_cases h0 : c = 100
  · have HF := Lib.hid (show true = hasF 10 c from by rw [h0]; rfl)
    subst h0
    go_enter Tryz.func51, Tryz.ntmps51
    go_wp2
    go_loop [6] (fun i => i = .int .i64 0) (fun i => 4 - (intOf i).toNat)
    case atStart => exact rfl
    case round =>
      obtain rfl := hrel
      · go_wp2
        go_ret
        exact ⟨ret_b HF.out, rfl⟩
  · have g0 : ((100 : Int) == c) = false := by simp; omega
    by_cases h1 : c = 49
    · have HF := Lib.hid (show true = hasF 10 c from by rw [h1]; rfl)
      subst h1
      go_enter Tryz.func51, Tryz.ntmps51
      go_wp2
      go_loop [6] (fun i => i = .int .i64 0 ∨ i = .int .i64 1) (fun i => 4 - (intOf i).toNat)
      case atStart => exact .inl rfl
      case round =>
        rcases hrel with rfl | rfl
        · go_wp2
          go_round
          case rel => exact .inr rfl
          case measure => simp [intOf]
        · go_wp2
          go_ret
          exact ⟨ret_b HF.out, rfl⟩
    · have g1 : ((49 : Int) == c) = false := by simp; omega
      by_cases h2 : c = 99
      · have HF := Lib.hid (show true = hasF 10 c from by rw [h2]; rfl)
        subst h2
        go_enter Tryz.func51, Tryz.ntmps51
        go_wp2
        go_loop [6] (fun i => i = .int .i64 0 ∨ i = .int .i64 1 ∨ i = .int .i64 2) (fun i => 4 - (intOf i).toNat)
        case atStart => exact .inl rfl
        case round =>
          rcases hrel with rfl | rfl | rfl
          · go_wp2
            go_round
            case rel => exact .inr (.inl rfl)
            case measure => simp [intOf]
          · go_wp2
            go_round
            case rel => exact .inr (.inr rfl)
            case measure => simp [intOf]
          · go_wp2
            go_ret
            exact ⟨ret_b HF.out, rfl⟩
      · have g2 : ((99 : Int) == c) = false := by simp; omega
        have HF := Lib.hid (show false = hasF 10 c from by simp [hasF, fieldsOf]; omega)
        have e0 : ((((⟨#[100, 49, 99]⟩ : ByteArray)[0]'(by decide)).toNat : Int) == c) = false := g0
        have e1 : ((((⟨#[100, 49, 99]⟩ : ByteArray)[1]'(by decide)).toNat : Int) == c) = false := g1
        have e2 : ((((⟨#[100, 49, 99]⟩ : ByteArray)[2]'(by decide)).toNat : Int) == c) = false := g2
        go_enter Tryz.func51, Tryz.ntmps51
        go_wp2
        go_loop [6] (fun i => i = .int .i64 0 ∨ i = .int .i64 1 ∨ i = .int .i64 2 ∨ i = .int .i64 3) (fun i => 4 - (intOf i).toNat)
        case atStart => exact .inl rfl
        case round =>
          rcases hrel with rfl | rfl | rfl | rfl
          · go_wp2
            go_round
            case rel => exact .inr (.inl rfl)
            case measure => simp [intOf]
          · go_wp2
            go_round
            case rel => exact .inr (.inr (.inl rfl))
            case measure => simp [intOf]
          · go_wp2
            go_round
            case rel => exact .inr (.inr (.inr rfl))
            case measure => simp [intOf]
          · go_wp2
            go_ret
            exact ⟨ret_b HF.out, rfl⟩
set_option maxHeartbeats 1000000 in
theorem refHas_11 (c : Int) (w : World) : Calls Tryz.prog 51 #[.string ⟨#[65]⟩, .int .u8 c] w fun e w' => e = .returned (.bool (hasF 11 c)) ∧ w = w' := by
  by_cases h0 : c = 100
  · have HF := Lib.hid (show true = hasF 11 c from by rw [h0]; rfl)
    subst h0
    go_enter Tryz.func51, Tryz.ntmps51
    go_wp2
    go_loop [6] (fun i => i = .int .i64 0) (fun i => 5 - (intOf i).toNat)
    case atStart => exact rfl
    case round =>
      obtain rfl := hrel
      · go_wp2
        go_ret
        exact ⟨ret_b HF.out, rfl⟩
  · have g0 : ((100 : Int) == c) = false := by simp; omega
    by_cases h1 : c = 49
    · have HF := Lib.hid (show true = hasF 11 c from by rw [h1]; rfl)
      subst h1
      go_enter Tryz.func51, Tryz.ntmps51
      go_wp2
      go_loop [6] (fun i => i = .int .i64 0 ∨ i = .int .i64 1) (fun i => 5 - (intOf i).toNat)
      case atStart => exact .inl rfl
      case round =>
        rcases hrel with rfl | rfl
        · go_wp2
          go_round
          case rel => exact .inr rfl
          case measure => simp [intOf]
        · go_wp2
          go_ret
          exact ⟨ret_b HF.out, rfl⟩
    · have g1 : ((49 : Int) == c) = false := by simp; omega
      by_cases h2 : c = 50
      · have HF := Lib.hid (show true = hasF 11 c from by rw [h2]; rfl)
        subst h2
        go_enter Tryz.func51, Tryz.ntmps51
        go_wp2
        go_loop [6] (fun i => i = .int .i64 0 ∨ i = .int .i64 1 ∨ i = .int .i64 2) (fun i => 5 - (intOf i).toNat)
        case atStart => exact .inl rfl
        case round =>
          rcases hrel with rfl | rfl | rfl
          · go_wp2
            go_round
            case rel => exact .inr (.inl rfl)
            case measure => simp [intOf]
          · go_wp2
            go_round
            case rel => exact .inr (.inr rfl)
            case measure => simp [intOf]
          · go_wp2
            go_ret
            exact ⟨ret_b HF.out, rfl⟩
      · have g2 : ((50 : Int) == c) = false := by simp; omega
        by_cases h3 : c = 113
        · have HF := Lib.hid (show true = hasF 11 c from by rw [h3]; rfl)
          subst h3
          go_enter Tryz.func51, Tryz.ntmps51
          go_wp2
          go_loop [6] (fun i => i = .int .i64 0 ∨ i = .int .i64 1 ∨ i = .int .i64 2 ∨ i = .int .i64 3) (fun i => 5 - (intOf i).toNat)
          case atStart => exact .inl rfl
          case round =>
            rcases hrel with rfl | rfl | rfl | rfl
            · go_wp2
              go_round
              case rel => exact .inr (.inl rfl)
              case measure => simp [intOf]
            · go_wp2
              go_round
              case rel => exact .inr (.inr (.inl rfl))
              case measure => simp [intOf]
            · go_wp2
              go_round
              case rel => exact .inr (.inr (.inr rfl))
              case measure => simp [intOf]
            · go_wp2
              go_ret
              exact ⟨ret_b HF.out, rfl⟩
        · have g3 : ((113 : Int) == c) = false := by simp; omega
          have HF := Lib.hid (show false = hasF 11 c from by simp [hasF, fieldsOf]; omega)
          have e0 : ((((⟨#[100, 49, 50, 113]⟩ : ByteArray)[0]'(by decide)).toNat : Int) == c) = false := g0
          have e1 : ((((⟨#[100, 49, 50, 113]⟩ : ByteArray)[1]'(by decide)).toNat : Int) == c) = false := g1
          have e2 : ((((⟨#[100, 49, 50, 113]⟩ : ByteArray)[2]'(by decide)).toNat : Int) == c) = false := g2
          have e3 : ((((⟨#[100, 49, 50, 113]⟩ : ByteArray)[3]'(by decide)).toNat : Int) == c) = false := g3
          go_enter Tryz.func51, Tryz.ntmps51
          go_wp2
          go_loop [6] (fun i => i = .int .i64 0 ∨ i = .int .i64 1 ∨ i = .int .i64 2 ∨ i = .int .i64 3 ∨ i = .int .i64 4) (fun i => 5 - (intOf i).toNat)
          case atStart => exact .inl rfl
          case round =>
            rcases hrel with rfl | rfl | rfl | rfl | rfl
            · go_wp2
              go_round
              case rel => exact .inr (.inl rfl)
              case measure => simp [intOf]
            · go_wp2
              go_round
              case rel => exact .inr (.inr (.inl rfl))
              case measure => simp [intOf]
            · go_wp2
              go_round
              case rel => exact .inr (.inr (.inr (.inl rfl)))
              case measure => simp [intOf]
            · go_wp2
              go_round
              case rel => exact .inr (.inr (.inr (.inr rfl)))
              case measure => simp [intOf]
            · go_wp2
              go_ret
              exact ⟨ret_b HF.out, rfl⟩
set_option maxHeartbeats 1000000 in
theorem refHas_12 (c : Int) (w : World) : Calls Tryz.prog 51 #[.string ⟨#[76, 114]⟩, .int .u8 c] w fun e w' => e = .returned (.bool (hasF 12 c)) ∧ w = w' := by
  by_cases h0 : c = 100
  · have HF := Lib.hid (show true = hasF 12 c from by rw [h0]; rfl)
    subst h0
    go_enter Tryz.func51, Tryz.ntmps51
    go_wp2
    go_loop [6] (fun i => i = .int .i64 0) (fun i => 4 - (intOf i).toNat)
    case atStart => exact rfl
    case round =>
      obtain rfl := hrel
      · go_wp2
        go_ret
        exact ⟨ret_b HF.out, rfl⟩
  · have g0 : ((100 : Int) == c) = false := by simp; omega
    by_cases h1 : c = 49
    · have HF := Lib.hid (show true = hasF 12 c from by rw [h1]; rfl)
      subst h1
      go_enter Tryz.func51, Tryz.ntmps51
      go_wp2
      go_loop [6] (fun i => i = .int .i64 0 ∨ i = .int .i64 1) (fun i => 4 - (intOf i).toNat)
      case atStart => exact .inl rfl
      case round =>
        rcases hrel with rfl | rfl
        · go_wp2
          go_round
          case rel => exact .inr rfl
          case measure => simp [intOf]
        · go_wp2
          go_ret
          exact ⟨ret_b HF.out, rfl⟩
    · have g1 : ((49 : Int) == c) = false := by simp; omega
      by_cases h2 : c = 113
      · have HF := Lib.hid (show true = hasF 12 c from by rw [h2]; rfl)
        subst h2
        go_enter Tryz.func51, Tryz.ntmps51
        go_wp2
        go_loop [6] (fun i => i = .int .i64 0 ∨ i = .int .i64 1 ∨ i = .int .i64 2) (fun i => 4 - (intOf i).toNat)
        case atStart => exact .inl rfl
        case round =>
          rcases hrel with rfl | rfl | rfl
          · go_wp2
            go_round
            case rel => exact .inr (.inl rfl)
            case measure => simp [intOf]
          · go_wp2
            go_round
            case rel => exact .inr (.inr rfl)
            case measure => simp [intOf]
          · go_wp2
            go_ret
            exact ⟨ret_b HF.out, rfl⟩
      · have g2 : ((113 : Int) == c) = false := by simp; omega
        have HF := Lib.hid (show false = hasF 12 c from by simp [hasF, fieldsOf]; omega)
        have e0 : ((((⟨#[100, 49, 113]⟩ : ByteArray)[0]'(by decide)).toNat : Int) == c) = false := g0
        have e1 : ((((⟨#[100, 49, 113]⟩ : ByteArray)[1]'(by decide)).toNat : Int) == c) = false := g1
        have e2 : ((((⟨#[100, 49, 113]⟩ : ByteArray)[2]'(by decide)).toNat : Int) == c) = false := g2
        go_enter Tryz.func51, Tryz.ntmps51
        go_wp2
        go_loop [6] (fun i => i = .int .i64 0 ∨ i = .int .i64 1 ∨ i = .int .i64 2 ∨ i = .int .i64 3) (fun i => 4 - (intOf i).toNat)
        case atStart => exact .inl rfl
        case round =>
          rcases hrel with rfl | rfl | rfl | rfl
          · go_wp2
            go_round
            case rel => exact .inr (.inl rfl)
            case measure => simp [intOf]
          · go_wp2
            go_round
            case rel => exact .inr (.inr (.inl rfl))
            case measure => simp [intOf]
          · go_wp2
            go_round
            case rel => exact .inr (.inr (.inr rfl))
            case measure => simp [intOf]
          · go_wp2
            go_ret
            exact ⟨ret_b HF.out, rfl⟩
set_option maxHeartbeats 1000000 in
theorem refHas_13 (c : Int) (w : World) : Calls Tryz.prog 51 #[.string ⟨#[66, 97, 114, 101]⟩, .int .u8 c] w fun e w' => e = .returned (.bool (hasF 13 c)) ∧ w = w' := by
  have HF := Lib.hid (show false = hasF 13 c from rfl)
  go_enter Tryz.func51, Tryz.ntmps51
  go_wp2
  go_loop [6] (fun i => i = .int .i64 0) (fun _ => 0)
  case atStart => rfl
  case round =>
    obtain rfl := hrel
    go_wp2
    go_ret
    exact ⟨ret_b HF.out, rfl⟩
set_option maxHeartbeats 1000000 in
theorem refHas_14 (c : Int) (w : World) : Calls Tryz.prog 51 #[.string ⟨#[83, 102, 101, 110, 99, 101]⟩, .int .u8 c] w fun e w' => e = .returned (.bool (hasF 14 c)) ∧ w = w' := by
  by_cases h0 : c = 49
  · have HF := Lib.hid (show true = hasF 14 c from by rw [h0]; rfl)
    subst h0
    go_enter Tryz.func51, Tryz.ntmps51
    go_wp2
    go_loop [6] (fun i => i = .int .i64 0) (fun i => 3 - (intOf i).toNat)
    case atStart => exact rfl
    case round =>
      obtain rfl := hrel
      · go_wp2
        go_ret
        exact ⟨ret_b HF.out, rfl⟩
  · have g0 : ((49 : Int) == c) = false := by simp; omega
    by_cases h1 : c = 50
    · have HF := Lib.hid (show true = hasF 14 c from by rw [h1]; rfl)
      subst h1
      go_enter Tryz.func51, Tryz.ntmps51
      go_wp2
      go_loop [6] (fun i => i = .int .i64 0 ∨ i = .int .i64 1) (fun i => 3 - (intOf i).toNat)
      case atStart => exact .inl rfl
      case round =>
        rcases hrel with rfl | rfl
        · go_wp2
          go_round
          case rel => exact .inr rfl
          case measure => simp [intOf]
        · go_wp2
          go_ret
          exact ⟨ret_b HF.out, rfl⟩
    · have g1 : ((50 : Int) == c) = false := by simp; omega
      have HF := Lib.hid (show false = hasF 14 c from by simp [hasF, fieldsOf]; omega)
      have e0 : ((((⟨#[49, 50]⟩ : ByteArray)[0]'(by decide)).toNat : Int) == c) = false := g0
      have e1 : ((((⟨#[49, 50]⟩ : ByteArray)[1]'(by decide)).toNat : Int) == c) = false := g1
      go_enter Tryz.func51, Tryz.ntmps51
      go_wp2
      go_loop [6] (fun i => i = .int .i64 0 ∨ i = .int .i64 1 ∨ i = .int .i64 2) (fun i => 3 - (intOf i).toNat)
      case atStart => exact .inl rfl
      case round =>
        rcases hrel with rfl | rfl | rfl
        · go_wp2
          go_round
          case rel => exact .inr (.inl rfl)
          case measure => simp [intOf]
        · go_wp2
          go_round
          case rel => exact .inr (.inr rfl)
          case measure => simp [intOf]
        · go_wp2
          go_ret
          exact ⟨ret_b HF.out, rfl⟩
theorem refHas_c (f : Nat) (hf : f < 15) (c : Int) (w : World) : Calls Tryz.prog 51 #[strV (Tab.names3.getD f []), .int .u8 c] w fun e w' => e = .returned (.bool (hasF f c)) ∧ w = w' := by
  match f, hf with
  | 0, _ => exact refHas_0 c w
  | 1, _ => exact refHas_1 c w
  | 2, _ => exact refHas_2 c w
  | 3, _ => exact refHas_3 c w
  | 4, _ => exact refHas_4 c w
  | 5, _ => exact refHas_5 c w
  | 6, _ => exact refHas_6 c w
  | 7, _ => exact refHas_7 c w
  | 8, _ => exact refHas_8 c w
  | 9, _ => exact refHas_9 c w
  | 10, _ => exact refHas_10 c w
  | 11, _ => exact refHas_11 c w
  | 12, _ => exact refHas_12 c w
  | 13, _ => exact refHas_13 c w
  | 14, _ => exact refHas_14 c w
end Go.Proofs.YthehcplogkgkeaaGreatDoor
set_option maxRecDepth 4000
namespace Go.Proofs.YthehcplogkgkeaaGreatDoor
open Go.ChangeShapes Go.WideShapes Go.ChangeAt Go.RowKit Wd

def maskedS (x m : Int) : Int := ((x.toNat &&& m.toNat) % 2 ^ 32 : Nat)
theorem masked_step (X M k : Nat) : (X &&& M) % 2 ^ (k + 1) = (X &&& M) % 2 ^ k + (if X / 2 ^ k % 2 = 1 ∧ M / 2 ^ k % 2 = 1 then 2 ^ k else 0) := by
  have h := Nat.mod_pow_succ (b := 2) (k := k) (x := X &&& M)
  have t : (X &&& M).testBit k = (X.testBit k && M.testBit k) := Nat.testBit_and _ _ _
  rw [Nat.testBit_eq_decide_div_mod_eq, Nat.testBit_eq_decide_div_mod_eq, Nat.testBit_eq_decide_div_mod_eq] at t
  rw [h]
  by_cases c : X / 2 ^ k % 2 = 1 ∧ M / 2 ^ k % 2 = 1
  · rw [if_pos c]
    have : (X &&& M) / 2 ^ k % 2 = 1 := by simpa [c.1, c.2] using t
    rw [this, Nat.mul_one]
  · rw [if_neg c]
    have : ¬ (X &&& M) / 2 ^ k % 2 = 1 := by
      intro h1
      simp [h1] at t
      exact c t
    have h0 : (X &&& M) / 2 ^ k % 2 = 0 := by omega
    rw [h0, Nat.mul_zero]
theorem masked_lt (X M k : Nat) : (X &&& M) % 2 ^ k < 2 ^ k := Nat.mod_lt _ (Nat.two_pow_pos k)
set_option maxHeartbeats 1000000 in
theorem refMasked_nat (X M : Nat) (w : World) (hX : X < 18446744073709551616) (hM : M < 18446744073709551616) :
    Calls Tryz.prog 49 #[.int .u64 X, .int .u64 M] w fun e w' => e = .returned (.int .u64 (((X &&& M) % 2 ^ 32 : Nat) : Int)) ∧ w = w' := by
  go_enter Tryz.func49, Tryz.ntmps49
  go_wp2
  go_loop [0, 1, 5, 6, 7] (fun x m o t i => ∃ k : Nat, k ≤ 32 ∧ i = .int .i64 k ∧ x = .int .u64 ((X / 2 ^ k : Nat) : Int) ∧ m = .int .u64 ((M / 2 ^ k : Nat) : Int) ∧ o = .int .u64 (((X &&& M) % 2 ^ k : Nat) : Int) ∧ t = .int .u64 ((2 ^ k : Nat) : Int)) (fun _ _ _ _ i => 32 - (intOf i).toNat)
  case atStart => exact ⟨0, by omega, rfl, by simp, by simp, by simp [Nat.mod_one], by simp⟩
  case round =>
    obtain ⟨k, hk, rfl, rfl, rfl, rfl, rfl⟩ := hrel
    by_cases hlt : k < 32
    · have hp : 2 ^ k ≤ 2 ^ 31 := Nat.pow_le_pow_right (by decide) (by omega)
      have hp0 : 0 < 2 ^ k := Nat.two_pow_pos k
      have hst := masked_step X M k
      have ho := masked_lt X M k
      have e1 : X / 2 ^ (k + 1) = X / 2 ^ k / 2 := by rw [Nat.pow_succ, Nat.div_div_eq_div_mul]
      have e2 : M / 2 ^ (k + 1) = M / 2 ^ k / 2 := by rw [Nat.pow_succ, Nat.div_div_eq_div_mul]
      have e3 : 2 ^ (k + 1) = 2 ^ k * 2 := Nat.pow_succ _ _
      have x1 : X / 2 ^ k < 18446744073709551616 := Nat.lt_of_le_of_lt (Nat.div_le_self _ _) hX
      have m1 : M / 2 ^ k < 18446744073709551616 := Nat.lt_of_le_of_lt (Nat.div_le_self _ _) hM
      generalize X / 2 ^ k = x at *
      generalize M / 2 ^ k = m at *
      generalize (X &&& M) % 2 ^ k = o at *
      generalize 2 ^ k = p at *
      have HE := Lib.hid (And.intro e1 (And.intro e2 (And.intro e3 hst)))
      clear e1 e2 e3 hst
      by_cases c1 : x % 2 = 1
      · by_cases c2 : m % 2 = 1
        · have g1 : (((x : Int) % 2) == 1) = true := by simp; omega
          have g2 : (((m : Int) % 2) == 1) = true := by simp; omega
          go_wp2
          go_round
          case rel => exact ⟨k + 1, by omega, by go_num, congrArg (Value.int .u64) (by rw [HE.out.1]; omega), congrArg (Value.int .u64) (by rw [HE.out.2.1]; omega), congrArg (Value.int .u64) (by rw [HE.out.2.2.2, if_pos ⟨c1, c2⟩]; omega), congrArg (Value.int .u64) (by rw [HE.out.2.2.1]; omega)⟩
          case measure => simp [intOf]; omega
        · have g1 : (((x : Int) % 2) == 1) = true := by simp; omega
          have g2 : (((m : Int) % 2) == 1) = false := by simp; omega
          go_wp2
          go_round
          case rel => exact ⟨k + 1, by omega, by go_num, congrArg (Value.int .u64) (by rw [HE.out.1]; omega), congrArg (Value.int .u64) (by rw [HE.out.2.1]; omega), congrArg (Value.int .u64) (by rw [HE.out.2.2.2, if_neg (fun h => c2 h.2)]; omega), congrArg (Value.int .u64) (by rw [HE.out.2.2.1]; omega)⟩
          case measure => simp [intOf]; omega
      · have g1 : (((x : Int) % 2) == 1) = false := by simp; omega
        go_wp2
        go_round
        case rel => exact ⟨k + 1, by omega, by go_num, congrArg (Value.int .u64) (by rw [HE.out.1]; omega), congrArg (Value.int .u64) (by rw [HE.out.2.1]; omega), congrArg (Value.int .u64) (by rw [HE.out.2.2.2, if_neg (fun h => c1 h.1)]; omega), congrArg (Value.int .u64) (by rw [HE.out.2.2.1]; omega)⟩
        case measure => simp [intOf]; omega
    · obtain rfl : k = 32 := by omega
      go_wp2
      go_ret
      exact ⟨rfl, rfl⟩
theorem refMasked_c (x m : Int) (w : World) (hx0 : 0 ≤ x) (hx : x < 18446744073709551616) (hm0 : 0 ≤ m) (hm : m < 18446744073709551616) :
    Calls Tryz.prog 49 #[.int .u64 x, .int .u64 m] w fun e w' => e = .returned (.int .u64 (maskedS x m)) ∧ w = w' := by
  obtain ⟨X, rfl⟩ := Int.eq_ofNat_of_zero_le hx0
  obtain ⟨M, rfl⟩ := Int.eq_ofNat_of_zero_le hm0
  exact refMasked_nat X M w (by omega) (by omega)
end Go.Proofs.YthehcplogkgkeaaGreatDoor
set_option maxRecDepth 4000
namespace Go.Proofs.YthehcplogkgkeaaGreatDoor
open Go.ChangeShapes Go.WideShapes Go.ChangeAt Go.RowKit Wd

theorem has_lacks : ∀ f : Fin 15, hasF f.val 100 = !lacksB f.val 1 ∧ hasF f.val 49 = !lacksB f.val 2 ∧ hasF f.val 50 = !lacksB f.val 4 ∧ hasF f.val 99 = !lacksB f.val 8 ∧ hasF f.val 113 = !lacksB f.val 16 := by decide +kernel
theorem cut_bit (X : Nat) (p : Nat) (hp : p < 64) : (bi (tbI (X : Int) (p : Int)) == 1) = (cutS (X : Int) (p : Int) 1 == 1) := by
  have e : cutS (X : Int) (p : Int) 1 = bi (tbI (X : Int) (p : Int)) := by
    symm
    obtain ⟨r0, r1⟩ := bi_range (tbI (X : Int) (p : Int))
    refine eq_word r0 (by omega) fun i hi => ?_
    rw [tbI_nat _ _ hp]
    by_cases h : i = 0
    · subst h
      have : ((p : Int) + ((0 : Nat) : Int)).toNat = p := by omega
      simp only [this]
      cases tb (X : Int) p <;> simp [bi, tb] <;> omega
    · have h2 : decide ((i : Int) < 1 ∧ 0 ≤ (p : Int) + i) = false := decide_eq_false (by omega)
      rw [h2, Bool.false_and]
      cases tb (X : Int) p
      · simp [bi, tb]
      · have : (1 : Nat).testBit i = false := Nat.testBit_lt_two_pow (Nat.lt_of_lt_of_le (by decide : 1 < 2 ^ 1) (Nat.pow_le_pow_right (by decide) (by omega)))
        simpa [bi, tb] using this
  rw [e]
theorem masked_match (X k : Nat) (hX : X < 4294967296) : (maskedS (X : Int) ((maskN k : Nat) : Int) != ((valN k : Nat) : Int)) = !matchN X k := by
  unfold maskedS matchN
  rw [Int.toNat_natCast, Int.toNat_natCast, Nat.mod_eq_of_lt (Nat.lt_of_le_of_lt Nat.and_le_left hX)]
  rw [Bool.eq_iff_iff]
  simp
  omega
/-- The instruction's block, while it is put together. -/
structure XAt (w : World) (b : Nat) (v0 v1 v2 v3 v4 v5 v6 v7 : Value) : Prop where
  c : w.cell? ⟨b, 0, none⟩ = some v0 ∧ w.cell? ⟨b, 1, none⟩ = some v1 ∧ w.cell? ⟨b, 2, none⟩ = some v2 ∧ w.cell? ⟨b, 3, none⟩ = some v3 ∧ w.cell? ⟨b, 4, none⟩ = some v4 ∧ w.cell? ⟨b, 5, none⟩ = some v5 ∧ w.cell? ⟨b, 6, none⟩ = some v6 ∧ w.cell? ⟨b, 7, none⟩ = some v7
  d : w.frozen? ⟨b, 0, none⟩ = false ∧ w.frozen? ⟨b, 1, none⟩ = false ∧ w.frozen? ⟨b, 2, none⟩ = false ∧ w.frozen? ⟨b, 3, none⟩ = false ∧ w.frozen? ⟨b, 4, none⟩ = false ∧ w.frozen? ⟨b, 5, none⟩ = false ∧ w.frozen? ⟨b, 6, none⟩ = false ∧ w.frozen? ⟨b, 7, none⟩ = false
theorem XAt.on {w w' : World} {b : Nat} {v0 v1 v2 v3 v4 v5 v6 v7 : Value} (h : XAt w b v0 v1 v2 v3 v4 v5 v6 v7) (hb : Below w.heap.size w w') : XAt w' b v0 v1 v2 v3 v4 v5 v6 v7 := by
  obtain ⟨⟨c0, c1, c2, c3, c4, c5, c6, c7⟩, ⟨d0, d1, d2, d3, d4, d5, d6, d7⟩⟩ := h
  have hl := lt_cell c0
  exact ⟨⟨(hb.cell (p := ⟨b, 0, none⟩) hl).trans c0, (hb.cell (p := ⟨b, 1, none⟩) hl).trans c1, (hb.cell (p := ⟨b, 2, none⟩) hl).trans c2, (hb.cell (p := ⟨b, 3, none⟩) hl).trans c3, (hb.cell (p := ⟨b, 4, none⟩) hl).trans c4, (hb.cell (p := ⟨b, 5, none⟩) hl).trans c5, (hb.cell (p := ⟨b, 6, none⟩) hl).trans c6, (hb.cell (p := ⟨b, 7, none⟩) hl).trans c7⟩, ⟨(hb.frozen (p := ⟨b, 0, none⟩) hl).trans d0, (hb.frozen (p := ⟨b, 1, none⟩) hl).trans d1, (hb.frozen (p := ⟨b, 2, none⟩) hl).trans d2, (hb.frozen (p := ⟨b, 3, none⟩) hl).trans d3, (hb.frozen (p := ⟨b, 4, none⟩) hl).trans d4, (hb.frozen (p := ⟨b, 5, none⟩) hl).trans d5, (hb.frozen (p := ⟨b, 6, none⟩) hl).trans d6, (hb.frozen (p := ⟨b, 7, none⟩) hl).trans d7⟩⟩
theorem xAt_new (w : World) (op imm : Int) (t : TypeId) : XAt (w.alloc (.cells #[.int .i64 op, .int .i64 0, .int .i64 0, .int .i64 0, .int .i64 imm, .int .i64 0, .bool false, .bool false] t)) w.heap.size (.int .i64 op) (.int .i64 0) (.int .i64 0) (.int .i64 0) (.int .i64 imm) (.int .i64 0) (.bool false) (.bool false) := by
  constructor
  · refine ⟨?_, ?_, ?_, ?_, ?_, ?_, ?_, ?_⟩ <;> simp [go_sem]
  · refine ⟨?_, ?_, ?_, ?_, ?_, ?_, ?_, ?_⟩ <;> simp [go_sem]
theorem XAt.set0 {w : World} {b : Nat} {v0 v1 v2 v3 v4 v5 v6 v7 : Value} (h : XAt w b v0 v1 v2 v3 v4 v5 v6 v7) (u : Value) : XAt (w.setCell ⟨b, 0, none⟩ u) b u v1 v2 v3 v4 v5 v6 v7 := by
  obtain ⟨⟨c0, c1, c2, c3, c4, c5, c6, c7⟩, ⟨d0, d1, d2, d3, d4, d5, d6, d7⟩⟩ := h
  exact ⟨⟨World.cell?_setCell_same' _ _ _ (by rw [c0]; rfl), (World.cell?_setCell_other (w := w) (a := ⟨b, 0, none⟩) (b := ⟨b, 1, none⟩) (v := u) (by simp)).trans c1, (World.cell?_setCell_other (w := w) (a := ⟨b, 0, none⟩) (b := ⟨b, 2, none⟩) (v := u) (by simp)).trans c2, (World.cell?_setCell_other (w := w) (a := ⟨b, 0, none⟩) (b := ⟨b, 3, none⟩) (v := u) (by simp)).trans c3, (World.cell?_setCell_other (w := w) (a := ⟨b, 0, none⟩) (b := ⟨b, 4, none⟩) (v := u) (by simp)).trans c4, (World.cell?_setCell_other (w := w) (a := ⟨b, 0, none⟩) (b := ⟨b, 5, none⟩) (v := u) (by simp)).trans c5, (World.cell?_setCell_other (w := w) (a := ⟨b, 0, none⟩) (b := ⟨b, 6, none⟩) (v := u) (by simp)).trans c6, (World.cell?_setCell_other (w := w) (a := ⟨b, 0, none⟩) (b := ⟨b, 7, none⟩) (v := u) (by simp)).trans c7⟩, ⟨by rw [World.frozen?_setCell]; exact d0, by rw [World.frozen?_setCell]; exact d1, by rw [World.frozen?_setCell]; exact d2, by rw [World.frozen?_setCell]; exact d3, by rw [World.frozen?_setCell]; exact d4, by rw [World.frozen?_setCell]; exact d5, by rw [World.frozen?_setCell]; exact d6, by rw [World.frozen?_setCell]; exact d7⟩⟩
theorem XAt.set1 {w : World} {b : Nat} {v0 v1 v2 v3 v4 v5 v6 v7 : Value} (h : XAt w b v0 v1 v2 v3 v4 v5 v6 v7) (u : Value) : XAt (w.setCell ⟨b, 1, none⟩ u) b v0 u v2 v3 v4 v5 v6 v7 := by
  obtain ⟨⟨c0, c1, c2, c3, c4, c5, c6, c7⟩, ⟨d0, d1, d2, d3, d4, d5, d6, d7⟩⟩ := h
  exact ⟨⟨(World.cell?_setCell_other (w := w) (a := ⟨b, 1, none⟩) (b := ⟨b, 0, none⟩) (v := u) (by simp)).trans c0, World.cell?_setCell_same' _ _ _ (by rw [c1]; rfl), (World.cell?_setCell_other (w := w) (a := ⟨b, 1, none⟩) (b := ⟨b, 2, none⟩) (v := u) (by simp)).trans c2, (World.cell?_setCell_other (w := w) (a := ⟨b, 1, none⟩) (b := ⟨b, 3, none⟩) (v := u) (by simp)).trans c3, (World.cell?_setCell_other (w := w) (a := ⟨b, 1, none⟩) (b := ⟨b, 4, none⟩) (v := u) (by simp)).trans c4, (World.cell?_setCell_other (w := w) (a := ⟨b, 1, none⟩) (b := ⟨b, 5, none⟩) (v := u) (by simp)).trans c5, (World.cell?_setCell_other (w := w) (a := ⟨b, 1, none⟩) (b := ⟨b, 6, none⟩) (v := u) (by simp)).trans c6, (World.cell?_setCell_other (w := w) (a := ⟨b, 1, none⟩) (b := ⟨b, 7, none⟩) (v := u) (by simp)).trans c7⟩, ⟨by rw [World.frozen?_setCell]; exact d0, by rw [World.frozen?_setCell]; exact d1, by rw [World.frozen?_setCell]; exact d2, by rw [World.frozen?_setCell]; exact d3, by rw [World.frozen?_setCell]; exact d4, by rw [World.frozen?_setCell]; exact d5, by rw [World.frozen?_setCell]; exact d6, by rw [World.frozen?_setCell]; exact d7⟩⟩
theorem XAt.set2 {w : World} {b : Nat} {v0 v1 v2 v3 v4 v5 v6 v7 : Value} (h : XAt w b v0 v1 v2 v3 v4 v5 v6 v7) (u : Value) : XAt (w.setCell ⟨b, 2, none⟩ u) b v0 v1 u v3 v4 v5 v6 v7 := by
  obtain ⟨⟨c0, c1, c2, c3, c4, c5, c6, c7⟩, ⟨d0, d1, d2, d3, d4, d5, d6, d7⟩⟩ := h
  exact ⟨⟨(World.cell?_setCell_other (w := w) (a := ⟨b, 2, none⟩) (b := ⟨b, 0, none⟩) (v := u) (by simp)).trans c0, (World.cell?_setCell_other (w := w) (a := ⟨b, 2, none⟩) (b := ⟨b, 1, none⟩) (v := u) (by simp)).trans c1, World.cell?_setCell_same' _ _ _ (by rw [c2]; rfl), (World.cell?_setCell_other (w := w) (a := ⟨b, 2, none⟩) (b := ⟨b, 3, none⟩) (v := u) (by simp)).trans c3, (World.cell?_setCell_other (w := w) (a := ⟨b, 2, none⟩) (b := ⟨b, 4, none⟩) (v := u) (by simp)).trans c4, (World.cell?_setCell_other (w := w) (a := ⟨b, 2, none⟩) (b := ⟨b, 5, none⟩) (v := u) (by simp)).trans c5, (World.cell?_setCell_other (w := w) (a := ⟨b, 2, none⟩) (b := ⟨b, 6, none⟩) (v := u) (by simp)).trans c6, (World.cell?_setCell_other (w := w) (a := ⟨b, 2, none⟩) (b := ⟨b, 7, none⟩) (v := u) (by simp)).trans c7⟩, ⟨by rw [World.frozen?_setCell]; exact d0, by rw [World.frozen?_setCell]; exact d1, by rw [World.frozen?_setCell]; exact d2, by rw [World.frozen?_setCell]; exact d3, by rw [World.frozen?_setCell]; exact d4, by rw [World.frozen?_setCell]; exact d5, by rw [World.frozen?_setCell]; exact d6, by rw [World.frozen?_setCell]; exact d7⟩⟩
theorem XAt.set3 {w : World} {b : Nat} {v0 v1 v2 v3 v4 v5 v6 v7 : Value} (h : XAt w b v0 v1 v2 v3 v4 v5 v6 v7) (u : Value) : XAt (w.setCell ⟨b, 3, none⟩ u) b v0 v1 v2 u v4 v5 v6 v7 := by
  obtain ⟨⟨c0, c1, c2, c3, c4, c5, c6, c7⟩, ⟨d0, d1, d2, d3, d4, d5, d6, d7⟩⟩ := h
  exact ⟨⟨(World.cell?_setCell_other (w := w) (a := ⟨b, 3, none⟩) (b := ⟨b, 0, none⟩) (v := u) (by simp)).trans c0, (World.cell?_setCell_other (w := w) (a := ⟨b, 3, none⟩) (b := ⟨b, 1, none⟩) (v := u) (by simp)).trans c1, (World.cell?_setCell_other (w := w) (a := ⟨b, 3, none⟩) (b := ⟨b, 2, none⟩) (v := u) (by simp)).trans c2, World.cell?_setCell_same' _ _ _ (by rw [c3]; rfl), (World.cell?_setCell_other (w := w) (a := ⟨b, 3, none⟩) (b := ⟨b, 4, none⟩) (v := u) (by simp)).trans c4, (World.cell?_setCell_other (w := w) (a := ⟨b, 3, none⟩) (b := ⟨b, 5, none⟩) (v := u) (by simp)).trans c5, (World.cell?_setCell_other (w := w) (a := ⟨b, 3, none⟩) (b := ⟨b, 6, none⟩) (v := u) (by simp)).trans c6, (World.cell?_setCell_other (w := w) (a := ⟨b, 3, none⟩) (b := ⟨b, 7, none⟩) (v := u) (by simp)).trans c7⟩, ⟨by rw [World.frozen?_setCell]; exact d0, by rw [World.frozen?_setCell]; exact d1, by rw [World.frozen?_setCell]; exact d2, by rw [World.frozen?_setCell]; exact d3, by rw [World.frozen?_setCell]; exact d4, by rw [World.frozen?_setCell]; exact d5, by rw [World.frozen?_setCell]; exact d6, by rw [World.frozen?_setCell]; exact d7⟩⟩
theorem XAt.set4 {w : World} {b : Nat} {v0 v1 v2 v3 v4 v5 v6 v7 : Value} (h : XAt w b v0 v1 v2 v3 v4 v5 v6 v7) (u : Value) : XAt (w.setCell ⟨b, 4, none⟩ u) b v0 v1 v2 v3 u v5 v6 v7 := by
  obtain ⟨⟨c0, c1, c2, c3, c4, c5, c6, c7⟩, ⟨d0, d1, d2, d3, d4, d5, d6, d7⟩⟩ := h
  exact ⟨⟨(World.cell?_setCell_other (w := w) (a := ⟨b, 4, none⟩) (b := ⟨b, 0, none⟩) (v := u) (by simp)).trans c0, (World.cell?_setCell_other (w := w) (a := ⟨b, 4, none⟩) (b := ⟨b, 1, none⟩) (v := u) (by simp)).trans c1, (World.cell?_setCell_other (w := w) (a := ⟨b, 4, none⟩) (b := ⟨b, 2, none⟩) (v := u) (by simp)).trans c2, (World.cell?_setCell_other (w := w) (a := ⟨b, 4, none⟩) (b := ⟨b, 3, none⟩) (v := u) (by simp)).trans c3, World.cell?_setCell_same' _ _ _ (by rw [c4]; rfl), (World.cell?_setCell_other (w := w) (a := ⟨b, 4, none⟩) (b := ⟨b, 5, none⟩) (v := u) (by simp)).trans c5, (World.cell?_setCell_other (w := w) (a := ⟨b, 4, none⟩) (b := ⟨b, 6, none⟩) (v := u) (by simp)).trans c6, (World.cell?_setCell_other (w := w) (a := ⟨b, 4, none⟩) (b := ⟨b, 7, none⟩) (v := u) (by simp)).trans c7⟩, ⟨by rw [World.frozen?_setCell]; exact d0, by rw [World.frozen?_setCell]; exact d1, by rw [World.frozen?_setCell]; exact d2, by rw [World.frozen?_setCell]; exact d3, by rw [World.frozen?_setCell]; exact d4, by rw [World.frozen?_setCell]; exact d5, by rw [World.frozen?_setCell]; exact d6, by rw [World.frozen?_setCell]; exact d7⟩⟩
theorem XAt.set5 {w : World} {b : Nat} {v0 v1 v2 v3 v4 v5 v6 v7 : Value} (h : XAt w b v0 v1 v2 v3 v4 v5 v6 v7) (u : Value) : XAt (w.setCell ⟨b, 5, none⟩ u) b v0 v1 v2 v3 v4 u v6 v7 := by
  obtain ⟨⟨c0, c1, c2, c3, c4, c5, c6, c7⟩, ⟨d0, d1, d2, d3, d4, d5, d6, d7⟩⟩ := h
  exact ⟨⟨(World.cell?_setCell_other (w := w) (a := ⟨b, 5, none⟩) (b := ⟨b, 0, none⟩) (v := u) (by simp)).trans c0, (World.cell?_setCell_other (w := w) (a := ⟨b, 5, none⟩) (b := ⟨b, 1, none⟩) (v := u) (by simp)).trans c1, (World.cell?_setCell_other (w := w) (a := ⟨b, 5, none⟩) (b := ⟨b, 2, none⟩) (v := u) (by simp)).trans c2, (World.cell?_setCell_other (w := w) (a := ⟨b, 5, none⟩) (b := ⟨b, 3, none⟩) (v := u) (by simp)).trans c3, (World.cell?_setCell_other (w := w) (a := ⟨b, 5, none⟩) (b := ⟨b, 4, none⟩) (v := u) (by simp)).trans c4, World.cell?_setCell_same' _ _ _ (by rw [c5]; rfl), (World.cell?_setCell_other (w := w) (a := ⟨b, 5, none⟩) (b := ⟨b, 6, none⟩) (v := u) (by simp)).trans c6, (World.cell?_setCell_other (w := w) (a := ⟨b, 5, none⟩) (b := ⟨b, 7, none⟩) (v := u) (by simp)).trans c7⟩, ⟨by rw [World.frozen?_setCell]; exact d0, by rw [World.frozen?_setCell]; exact d1, by rw [World.frozen?_setCell]; exact d2, by rw [World.frozen?_setCell]; exact d3, by rw [World.frozen?_setCell]; exact d4, by rw [World.frozen?_setCell]; exact d5, by rw [World.frozen?_setCell]; exact d6, by rw [World.frozen?_setCell]; exact d7⟩⟩
theorem XAt.set6 {w : World} {b : Nat} {v0 v1 v2 v3 v4 v5 v6 v7 : Value} (h : XAt w b v0 v1 v2 v3 v4 v5 v6 v7) (u : Value) : XAt (w.setCell ⟨b, 6, none⟩ u) b v0 v1 v2 v3 v4 v5 u v7 := by
  obtain ⟨⟨c0, c1, c2, c3, c4, c5, c6, c7⟩, ⟨d0, d1, d2, d3, d4, d5, d6, d7⟩⟩ := h
  exact ⟨⟨(World.cell?_setCell_other (w := w) (a := ⟨b, 6, none⟩) (b := ⟨b, 0, none⟩) (v := u) (by simp)).trans c0, (World.cell?_setCell_other (w := w) (a := ⟨b, 6, none⟩) (b := ⟨b, 1, none⟩) (v := u) (by simp)).trans c1, (World.cell?_setCell_other (w := w) (a := ⟨b, 6, none⟩) (b := ⟨b, 2, none⟩) (v := u) (by simp)).trans c2, (World.cell?_setCell_other (w := w) (a := ⟨b, 6, none⟩) (b := ⟨b, 3, none⟩) (v := u) (by simp)).trans c3, (World.cell?_setCell_other (w := w) (a := ⟨b, 6, none⟩) (b := ⟨b, 4, none⟩) (v := u) (by simp)).trans c4, (World.cell?_setCell_other (w := w) (a := ⟨b, 6, none⟩) (b := ⟨b, 5, none⟩) (v := u) (by simp)).trans c5, World.cell?_setCell_same' _ _ _ (by rw [c6]; rfl), (World.cell?_setCell_other (w := w) (a := ⟨b, 6, none⟩) (b := ⟨b, 7, none⟩) (v := u) (by simp)).trans c7⟩, ⟨by rw [World.frozen?_setCell]; exact d0, by rw [World.frozen?_setCell]; exact d1, by rw [World.frozen?_setCell]; exact d2, by rw [World.frozen?_setCell]; exact d3, by rw [World.frozen?_setCell]; exact d4, by rw [World.frozen?_setCell]; exact d5, by rw [World.frozen?_setCell]; exact d6, by rw [World.frozen?_setCell]; exact d7⟩⟩
theorem XAt.set7 {w : World} {b : Nat} {v0 v1 v2 v3 v4 v5 v6 v7 : Value} (h : XAt w b v0 v1 v2 v3 v4 v5 v6 v7) (u : Value) : XAt (w.setCell ⟨b, 7, none⟩ u) b v0 v1 v2 v3 v4 v5 v6 u := by
  obtain ⟨⟨c0, c1, c2, c3, c4, c5, c6, c7⟩, ⟨d0, d1, d2, d3, d4, d5, d6, d7⟩⟩ := h
  exact ⟨⟨(World.cell?_setCell_other (w := w) (a := ⟨b, 7, none⟩) (b := ⟨b, 0, none⟩) (v := u) (by simp)).trans c0, (World.cell?_setCell_other (w := w) (a := ⟨b, 7, none⟩) (b := ⟨b, 1, none⟩) (v := u) (by simp)).trans c1, (World.cell?_setCell_other (w := w) (a := ⟨b, 7, none⟩) (b := ⟨b, 2, none⟩) (v := u) (by simp)).trans c2, (World.cell?_setCell_other (w := w) (a := ⟨b, 7, none⟩) (b := ⟨b, 3, none⟩) (v := u) (by simp)).trans c3, (World.cell?_setCell_other (w := w) (a := ⟨b, 7, none⟩) (b := ⟨b, 4, none⟩) (v := u) (by simp)).trans c4, (World.cell?_setCell_other (w := w) (a := ⟨b, 7, none⟩) (b := ⟨b, 5, none⟩) (v := u) (by simp)).trans c5, (World.cell?_setCell_other (w := w) (a := ⟨b, 7, none⟩) (b := ⟨b, 6, none⟩) (v := u) (by simp)).trans c6, World.cell?_setCell_same' _ _ _ (by rw [c7]; rfl)⟩, ⟨by rw [World.frozen?_setCell]; exact d0, by rw [World.frozen?_setCell]; exact d1, by rw [World.frozen?_setCell]; exact d2, by rw [World.frozen?_setCell]; exact d3, by rw [World.frozen?_setCell]; exact d4, by rw [World.frozen?_setCell]; exact d5, by rw [World.frozen?_setCell]; exact d6, by rw [World.frozen?_setCell]; exact d7⟩⟩
abbrev DS (w : World) (g k : Nat) (op : Int) (w' : World) : Prop := Below w.heap.size w w' ∧ w'.cell? ⟨g, k * 4, none⟩ = some (.int .i64 op)
theorem DS.on {w w' w2 : World} {g k : Nat} {op : Int} (h : DS w g k op w') (hb : Below w'.heap.size w' w2) : DS w g k op w2 :=
  ⟨h.1.trans (hb.mono h.1.size), (hb.cell (p := ⟨g, k * 4, none⟩) (lt_cell h.2)).trans h.2⟩
theorem DS.drew {w w' : World} {g k : Nat} {op : Int} (h : DS w g k op w') : DS w g k op w'.drew := h.on ((Below.refl _ _).drew)
theorem DS.alloc {w w' : World} {g k : Nat} {op : Int} (h : DS w g k op w') (o : Obj) : DS w g k op (w'.alloc o) := h.on ((Below.refl _ _).alloc (Nat.le_refl _) o)
theorem xAt_drew (w : World) : XAt (w.alloc (.cells #[.int .i64 0, .int .i64 0, .int .i64 0, .int .i64 0, .int .i64 0, .int .i64 0, .bool false, .bool false] 24)).drew w.heap.size (.int .i64 0) (.int .i64 0) (.int .i64 0) (.int .i64 0) (.int .i64 0) (.int .i64 0) (.bool false) (.bool false) := (xAt_new w 0 0 _).on ((Below.refl _ _).drew)
theorem below_one (w : World) {o : Obj} : Below w.heap.size w (w.alloc o).drew := ((Below.refl _ w).alloc (Nat.le_refl _) o).drew
theorem big_of {X : Nat} (h : X < 4294967296) : (X : Int) < 18446744073709551616 := by omega
end Go.Proofs.YthehcplogkgkeaaGreatDoor
