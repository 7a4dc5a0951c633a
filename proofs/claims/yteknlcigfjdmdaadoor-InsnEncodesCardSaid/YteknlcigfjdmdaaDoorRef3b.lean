/-
  The contract of the reference's Has (layer 3): has a format a field?
-/
import Derived.Test.YteknlcigfjdmdaaDoorRefT
namespace Go.Proofs.YteknlcigfjdmdaaDoor
open Go.ChangeShapes Go.WideShapes Go.ChangeAt Go.RowKit Wd

/-- The fields of each format, by its number, as bytes. -/
def fieldsOf (f : Nat) : List Int := match f with
  | 1 => [100, 49, 50]
  | 2 => [100, 49, 105]
  | 3 => [49, 50, 105]
  | 4 => [49, 50, 105]
  | 5 => [100, 105]
  | 6 => [100, 105]
  | 7 => [100, 49, 105]
  | 8 => [100, 49, 105]
  | 9 => [100, 49, 99]
  | 10 => [100, 49, 99]
  | 11 => [100, 49, 50, 113]
  | 12 => [100, 49, 113]
  | 14 => [49, 50]
  | _ => []
def hasF (f : Nat) (c : Int) : Bool := (fieldsOf f).any (· == c)

set_option maxHeartbeats 1000000 in
theorem refHas_0 (c : Int) (w : World) : Calls Tryd.prog 18 #[.string ⟨#[]⟩, .int .u8 c] w fun e w' => e = .returned (.bool (hasF 0 c)) ∧ w = w' := by
  have HF := Lib.hid (show false = hasF 0 c from rfl)
  go_enter Tryd.func18, Tryd.ntmps18
  go_wp2
  go_loop [6] (fun i => i = .int .i64 0) (fun _ => 0)
  case atStart => rfl
  case round =>
    obtain rfl := hrel
    go_wp2
    go_ret
    exact ⟨ret_b HF.out, rfl⟩
set_option maxHeartbeats 1000000 in
theorem refHas_1 (c : Int) (w : World) : Calls Tryd.prog 18 #[.string ⟨#[82]⟩, .int .u8 c] w fun e w' => e = .returned (.bool (hasF 1 c)) ∧ w = w' := by
  by_cases h0 : c = 100
  · have HF := Lib.hid (show true = hasF 1 c from by rw [h0]; rfl)
    subst h0
    go_enter Tryd.func18, Tryd.ntmps18
    go_wp2
    go_loop [6] (fun i => i = .int .i64 0) (fun i => 4 - (intOf i).toNat)
    case atStart => exact rfl
    case round =>
      obtain rfl := hrel
      · go_wp2
        go_ret
        exact ⟨ret_b HF.out, rfl⟩
  · have g0 : ((100 : Int) == c) = false := by simp; omega
    by_cases h1 : c = 49
    · have HF := Lib.hid (show true = hasF 1 c from by rw [h1]; rfl)
      subst h1
      go_enter Tryd.func18, Tryd.ntmps18
      go_wp2
      go_loop [6] (fun i => i = .int .i64 0 ∨ i = .int .i64 1) (fun i => 4 - (intOf i).toNat)
      case atStart => exact .inl rfl
      case round =>
        rcases hrel with rfl | rfl
        · go_wp2
          go_round
          case rel => exact .inr rfl
          case measure => simp [intOf]
        · go_wp2
          go_ret
          exact ⟨ret_b HF.out, rfl⟩
    · have g1 : ((49 : Int) == c) = false := by simp; omega
      by_cases h2 : c = 50
      · have HF := Lib.hid (show true = hasF 1 c from by rw [h2]; rfl)
        subst h2
        go_enter Tryd.func18, Tryd.ntmps18
        go_wp2
        go_loop [6] (fun i => i = .int .i64 0 ∨ i = .int .i64 1 ∨ i = .int .i64 2) (fun i => 4 - (intOf i).toNat)
        case atStart => exact .inl rfl
        case round =>
          rcases hrel with rfl | rfl | rfl
          · go_wp2
            go_round
            case rel => exact .inr (.inl rfl)
            case measure => simp [intOf]
          · go_wp2
            go_round
            case rel => exact .inr (.inr rfl)
            case measure => simp [intOf]
          · go_wp2
            go_ret
            exact ⟨ret_b HF.out, rfl⟩
      · have g2 : ((50 : Int) == c) = false := by simp; omega
        have HF := Lib.hid (show false = hasF 1 c from by simp [hasF, fieldsOf]; omega)
        have e0 : ((((⟨#[100, 49, 50]⟩ : ByteArray)[0]'(by decide)).toNat : Int) == c) = false := g0
        have e1 : ((((⟨#[100, 49, 50]⟩ : ByteArray)[1]'(by decide)).toNat : Int) == c) = false := g1
        have e2 : ((((⟨#[100, 49, 50]⟩ : ByteArray)[2]'(by decide)).toNat : Int) == c) = false := g2
        go_enter Tryd.func18, Tryd.ntmps18
        go_wp2
        go_loop [6] (fun i => i = .int .i64 0 ∨ i = .int .i64 1 ∨ i = .int .i64 2 ∨ i = .int .i64 3) (fun i => 4 - (intOf i).toNat)
        case atStart => exact .inl rfl
        case round =>
          rcases hrel with rfl | rfl | rfl | rfl
          · go_wp2
            go_round
            case rel => exact .inr (.inl rfl)
            case measure => simp [intOf]
          · go_wp2
            go_round
            case rel => exact .inr (.inr (.inl rfl))
            case measure => simp [intOf]
          · go_wp2
            go_round
            case rel => exact .inr (.inr (.inr rfl))
            case measure => simp [intOf]
          · go_wp2
            go_ret
            exact ⟨ret_b HF.out, rfl⟩
set_option maxHeartbeats 1000000 in
theorem refHas_2 (c : Int) (w : World) : Calls Tryd.prog 18 #[.string ⟨#[73]⟩, .int .u8 c] w fun e w' => e = .returned (.bool (hasF 2 c)) ∧ w = w' := by
  by_cases h0 : c = 100
  · have HF := Lib.hid (show true = hasF 2 c from by rw [h0]; rfl)
    subst h0
    go_enter Tryd.func18, Tryd.ntmps18
    go_wp2
    go_loop [6] (fun i => i = .int .i64 0) (fun i => 4 - (intOf i).toNat)
    case atStart => exact rfl
    case round =>
      obtain rfl := hrel
      · go_wp2
        go_ret
        exact ⟨ret_b HF.out, rfl⟩
  · have g0 : ((100 : Int) == c) = false := by simp; omega
    by_cases h1 : c = 49
    · have HF := Lib.hid (show true = hasF 2 c from by rw [h1]; rfl)
      subst h1
      go_enter Tryd.func18, Tryd.ntmps18
      go_wp2
      go_loop [6] (fun i => i = .int .i64 0 ∨ i = .int .i64 1) (fun i => 4 - (intOf i).toNat)
      case atStart => exact .inl rfl
      case round =>
        rcases hrel with rfl | rfl
        · go_wp2
          go_round
          case rel => exact .inr rfl
          case measure => simp [intOf]
        · go_wp2
          go_ret
          exact ⟨ret_b HF.out, rfl⟩
    · have g1 : ((49 : Int) == c) = false := by simp; omega
      by_cases h2 : c = 105
      · have HF := Lib.hid (show true = hasF 2 c from by rw [h2]; rfl)
        subst h2
        go_enter Tryd.func18, Tryd.ntmps18
        go_wp2
        go_loop [6] (fun i => i = .int .i64 0 ∨ i = .int .i64 1 ∨ i = .int .i64 2) (fun i => 4 - (intOf i).toNat)
        case atStart => exact .inl rfl
        case round =>
          rcases hrel with rfl | rfl | rfl
          · go_wp2
            go_round
            case rel => exact .inr (.inl rfl)
            case measure => simp [intOf]
          · go_wp2
            go_round
            case rel => exact .inr (.inr rfl)
            case measure => simp [intOf]
          · go_wp2
            go_ret
            exact ⟨ret_b HF.out, rfl⟩
      · have g2 : ((105 : Int) == c) = false := by simp; omega
        have HF := Lib.hid (show false = hasF 2 c from by simp [hasF, fieldsOf]; omega)
        have e0 : ((((⟨#[100, 49, 105]⟩ : ByteArray)[0]'(by decide)).toNat : Int) == c) = false := g0
        have e1 : ((((⟨#[100, 49, 105]⟩ : ByteArray)[1]'(by decide)).toNat : Int) == c) = false := g1
        have e2 : ((((⟨#[100, 49, 105]⟩ : ByteArray)[2]'(by decide)).toNat : Int) == c) = false := g2
        go_enter Tryd.func18, Tryd.ntmps18
        go_wp2
        go_loop [6] (fun i => i = .int .i64 0 ∨ i = .int .i64 1 ∨ i = .int .i64 2 ∨ i = .int .i64 3) (fun i => 4 - (intOf i).toNat)
        case atStart => exact .inl rfl
        case round =>
          rcases hrel with rfl | rfl | rfl | rfl
          · go_wp2
            go_round
            case rel => exact .inr (.inl rfl)
            case measure => simp [intOf]
          · go_wp2
            go_round
            case rel => exact .inr (.inr (.inl rfl))
            case measure => simp [intOf]
          · go_wp2
            go_round
            case rel => exact .inr (.inr (.inr rfl))
            case measure => simp [intOf]
          · go_wp2
            go_ret
            exact ⟨ret_b HF.out, rfl⟩
set_option maxHeartbeats 1000000 in
theorem refHas_3 (c : Int) (w : World) : Calls Tryd.prog 18 #[.string ⟨#[83]⟩, .int .u8 c] w fun e w' => e = .returned (.bool (hasF 3 c)) ∧ w = w' := by
  by_cases h0 : c = 49
  · have HF := Lib.hid (show true = hasF 3 c from by rw [h0]; rfl)
    subst h0
    go_enter Tryd.func18, Tryd.ntmps18
    go_wp2
    go_loop [6] (fun i => i = .int .i64 0) (fun i => 4 - (intOf i).toNat)
    case atStart => exact rfl
    case round =>
      obtain rfl := hrel
      · go_wp2
        go_ret
        exact ⟨ret_b HF.out, rfl⟩
  · have g0 : ((49 : Int) == c) = false := by simp; omega
    by_cases h1 : c = 50
    · have HF := Lib.hid (show true = hasF 3 c from by rw [h1]; rfl)
      subst h1
      go_enter Tryd.func18, Tryd.ntmps18
      go_wp2
      go_loop [6] (fun i => i = .int .i64 0 ∨ i = .int .i64 1) (fun i => 4 - (intOf i).toNat)
      case atStart => exact .inl rfl
      case round =>
        rcases hrel with rfl | rfl
        · go_wp2
          go_round
          case rel => exact .inr rfl
          case measure => simp [intOf]
        · go_wp2
          go_ret
          exact ⟨ret_b HF.out, rfl⟩
    · have g1 : ((50 : Int) == c) = false := by simp; omega
      by_cases h2 : c = 105
      · have HF := Lib.hid (show true = hasF 3 c from by rw [h2]; rfl)
        subst h2
        go_enter Tryd.func18, Tryd.ntmps18
        go_wp2
        go_loop [6] (fun i => i = .int .i64 0 ∨ i = .int .i64 1 ∨ i = .int .i64 2) (fun i => 4 - (intOf i).toNat)
        case atStart => exact .inl rfl
        case round =>
          rcases hrel with rfl | rfl | rfl
          · go_wp2
            go_round
            case rel => exact .inr (.inl rfl)
            case measure => simp [intOf]
          · go_wp2
            go_round
            case rel => exact .inr (.inr rfl)
            case measure => simp [intOf]
          · go_wp2
            go_ret
            exact ⟨ret_b HF.out, rfl⟩
      · have g2 : ((105 : Int) == c) = false := by simp; omega
        have HF := Lib.hid (show false = hasF 3 c from by simp [hasF, fieldsOf]; omega)
        have e0 : ((((⟨#[49, 50, 105]⟩ : ByteArray)[0]'(by decide)).toNat : Int) == c) = false := g0
        have e1 : ((((⟨#[49, 50, 105]⟩ : ByteArray)[1]'(by decide)).toNat : Int) == c) = false := g1
        have e2 : ((((⟨#[49, 50, 105]⟩ : ByteArray)[2]'(by decide)).toNat : Int) == c) = false := g2
        go_enter Tryd.func18, Tryd.ntmps18
        go_wp2
        go_loop [6] (fun i => i = .int .i64 0 ∨ i = .int .i64 1 ∨ i = .int .i64 2 ∨ i = .int .i64 3) (fun i => 4 - (intOf i).toNat)
        case atStart => exact .inl rfl
        case round =>
          rcases hrel with rfl | rfl | rfl | rfl
          · go_wp2
            go_round
            case rel => exact .inr (.inl rfl)
            case measure => simp [intOf]
          · go_wp2
            go_round
            case rel => exact .inr (.inr (.inl rfl))
            case measure => simp [intOf]
          · go_wp2
            go_round
            case rel => exact .inr (.inr (.inr rfl))
            case measure => simp [intOf]
          · go_wp2
            go_ret
            exact ⟨ret_b HF.out, rfl⟩
set_option maxHeartbeats 1000000 in
theorem refHas_4 (c : Int) (w : World) : Calls Tryd.prog 18 #[.string ⟨#[66]⟩, .int .u8 c] w fun e w' => e = .returned (.bool (hasF 4 c)) ∧ w = w' := by
  by_cases h0 : c = 49
  · have HF := Lib.hid (show true = hasF 4 c from by rw [h0]; rfl)
    subst h0
    go_enter Tryd.func18, Tryd.ntmps18
    go_wp2
    go_loop [6] (fun i => i = .int .i64 0) (fun i => 4 - (intOf i).toNat)
    case atStart => exact rfl
    case round =>
      obtain rfl := hrel
      · go_wp2
        go_ret
        exact ⟨ret_b HF.out, rfl⟩
  · have g0 : ((49 : Int) == c) = false := by simp; omega
    by_cases h1 : c = 50
    · have HF := Lib.hid (show true = hasF 4 c from by rw [h1]; rfl)
      subst h1
      go_enter Tryd.func18, Tryd.ntmps18
      go_wp2
      go_loop [6] (fun i => i = .int .i64 0 ∨ i = .int .i64 1) (fun i => 4 - (intOf i).toNat)
      case atStart => exact .inl rfl
      case round =>
        rcases hrel with rfl | rfl
        · go_wp2
          go_round
          case rel => exact .inr rfl
          case measure => simp [intOf]
        · go_wp2
          go_ret
          exact ⟨ret_b HF.out, rfl⟩
    · have g1 : ((50 : Int) == c) = false := by simp; omega
      by_cases h2 : c = 105
      · have HF := Lib.hid (show true = hasF 4 c from by rw [h2]; rfl)
        subst h2
        go_enter Tryd.func18, Tryd.ntmps18
        go_wp2
        go_loop [6] (fun i => i = .int .i64 0 ∨ i = .int .i64 1 ∨ i = .int .i64 2) (fun i => 4 - (intOf i).toNat)
        case atStart => exact .inl rfl
        case round =>
          rcases hrel with rfl | rfl | rfl
          · go_wp2
            go_round
            case rel => exact .inr (.inl rfl)
            case measure => simp [intOf]
          · go_wp2
            go_round
            case rel => exact .inr (.inr rfl)
            case measure => simp [intOf]
          · go_wp2
            go_ret
            exact ⟨ret_b HF.out, rfl⟩
      · have g2 : ((105 : Int) == c) = false := by simp; omega
        have HF := Lib.hid (show false = hasF 4 c from by simp [hasF, fieldsOf]; omega)
        have e0 : ((((⟨#[49, 50, 105]⟩ : ByteArray)[0]'(by decide)).toNat : Int) == c) = false := g0
        have e1 : ((((⟨#[49, 50, 105]⟩ : ByteArray)[1]'(by decide)).toNat : Int) == c) = false := g1
        have e2 : ((((⟨#[49, 50, 105]⟩ : ByteArray)[2]'(by decide)).toNat : Int) == c) = false := g2
        go_enter Tryd.func18, Tryd.ntmps18
        go_wp2
        go_loop [6] (fun i => i = .int .i64 0 ∨ i = .int .i64 1 ∨ i = .int .i64 2 ∨ i = .int .i64 3) (fun i => 4 - (intOf i).toNat)
        case atStart => exact .inl rfl
        case round =>
          rcases hrel with rfl | rfl | rfl | rfl
          · go_wp2
            go_round
            case rel => exact .inr (.inl rfl)
            case measure => simp [intOf]
          · go_wp2
            go_round
            case rel => exact .inr (.inr (.inl rfl))
            case measure => simp [intOf]
          · go_wp2
            go_round
            case rel => exact .inr (.inr (.inr rfl))
            case measure => simp [intOf]
          · go_wp2
            go_ret
            exact ⟨ret_b HF.out, rfl⟩
set_option maxHeartbeats 1000000 in
theorem refHas_5 (c : Int) (w : World) : Calls Tryd.prog 18 #[.string ⟨#[85]⟩, .int .u8 c] w fun e w' => e = .returned (.bool (hasF 5 c)) ∧ w = w' := by
  by_cases h0 : c = 100
  · have HF := Lib.hid (show true = hasF 5 c from by rw [h0]; rfl)
    subst h0
    go_enter Tryd.func18, Tryd.ntmps18
    go_wp2
    go_loop [6] (fun i => i = .int .i64 0) (fun i => 3 - (intOf i).toNat)
    case atStart => exact rfl
    case round =>
      obtain rfl := hrel
      · go_wp2
        go_ret
        exact ⟨ret_b HF.out, rfl⟩
  · have g0 : ((100 : Int) == c) = false := by simp; omega
    by_cases h1 : c = 105
    · have HF := Lib.hid (show true = hasF 5 c from by rw [h1]; rfl)
      subst h1
      go_enter Tryd.func18, Tryd.ntmps18
      go_wp2
      go_loop [6] (fun i => i = .int .i64 0 ∨ i = .int .i64 1) (fun i => 3 - (intOf i).toNat)
      case atStart => exact .inl rfl
      case round =>
        rcases hrel with rfl | rfl
        · go_wp2
          go_round
          case rel => exact .inr rfl
          case measure => simp [intOf]
        · go_wp2
          go_ret
          exact ⟨ret_b HF.out, rfl⟩
    · have g1 : ((105 : Int) == c) = false := by simp; omega
      have HF := Lib.hid (show false = hasF 5 c from by simp [hasF, fieldsOf]; omega)
      have e0 : ((((⟨#[100, 105]⟩ : ByteArray)[0]'(by decide)).toNat : Int) == c) = false := g0
      have e1 : ((((⟨#[100, 105]⟩ : ByteArray)[1]'(by decide)).toNat : Int) == c) = false := g1
      go_enter Tryd.func18, Tryd.ntmps18
      go_wp2
      go_loop [6] (fun i => i = .int .i64 0 ∨ i = .int .i64 1 ∨ i = .int .i64 2) (fun i => 3 - (intOf i).toNat)
      case atStart => exact .inl rfl
      case round =>
        rcases hrel with rfl | rfl | rfl
        · go_wp2
          go_round
          case rel => exact .inr (.inl rfl)
          case measure => simp [intOf]
        · go_wp2
          go_round
          case rel => exact .inr (.inr rfl)
          case measure => simp [intOf]
        · go_wp2
          go_ret
          exact ⟨ret_b HF.out, rfl⟩
set_option maxHeartbeats 1000000 in
theorem refHas_6 (c : Int) (w : World) : Calls Tryd.prog 18 #[.string ⟨#[74]⟩, .int .u8 c] w fun e w' => e = .returned (.bool (hasF 6 c)) ∧ w = w' := by
  by_cases h0 : c = 100
  · have HF := Lib.hid (show true = hasF 6 c from by rw [h0]; rfl)
    subst h0
    go_enter Tryd.func18, Tryd.ntmps18
    go_wp2
    go_loop [6] (fun i => i = .int .i64 0) (fun i => 3 - (intOf i).toNat)
    case atStart => exact rfl
    case round =>
      obtain rfl := hrel
      · go_wp2
        go_ret
        exact ⟨ret_b HF.out, rfl⟩
  · have g0 : ((100 : Int) == c) = false := by simp; omega
    by_cases h1 : c = 105
    · have HF := Lib.hid (show true = hasF 6 c from by rw [h1]; rfl)
      subst h1
      go_enter Tryd.func18, Tryd.ntmps18
      go_wp2
      go_loop [6] (fun i => i = .int .i64 0 ∨ i = .int .i64 1) (fun i => 3 - (intOf i).toNat)
      case atStart => exact .inl rfl
      case round =>
        rcases hrel with rfl | rfl
        · go_wp2
          go_round
          case rel => exact .inr rfl
          case measure => simp [intOf]
        · go_wp2
          go_ret
          exact ⟨ret_b HF.out, rfl⟩
    · have g1 : ((105 : Int) == c) = false := by simp; omega
      have HF := Lib.hid (show false = hasF 6 c from by simp [hasF, fieldsOf]; omega)
      have e0 : ((((⟨#[100, 105]⟩ : ByteArray)[0]'(by decide)).toNat : Int) == c) = false := g0
      have e1 : ((((⟨#[100, 105]⟩ : ByteArray)[1]'(by decide)).toNat : Int) == c) = false := g1
      go_enter Tryd.func18, Tryd.ntmps18
      go_wp2
      go_loop [6] (fun i => i = .int .i64 0 ∨ i = .int .i64 1 ∨ i = .int .i64 2) (fun i => 3 - (intOf i).toNat)
      case atStart => exact .inl rfl
      case round =>
        rcases hrel with rfl | rfl | rfl
        · go_wp2
          go_round
          case rel => exact .inr (.inl rfl)
          case measure => simp [intOf]
        · go_wp2
          go_round
          case rel => exact .inr (.inr rfl)
          case measure => simp [intOf]
        · go_wp2
          go_ret
          exact ⟨ret_b HF.out, rfl⟩
set_option maxHeartbeats 1000000 in
theorem refHas_7 (c : Int) (w : World) : Calls Tryd.prog 18 #[.string ⟨#[83, 104, 105, 102, 116]⟩, .int .u8 c] w fun e w' => e = .returned (.bool (hasF 7 c)) ∧ w = w' := by
  by_cases h0 : c = 100
  · have HF := Lib.hid (show true = hasF 7 c from by rw [h0]; rfl)
    subst h0
    go_enter Tryd.func18, Tryd.ntmps18
    go_wp2
    go_loop [6] (fun i => i = .int .i64 0) (fun i => 4 - (intOf i).toNat)
    case atStart => exact rfl
    case round =>
      obtain rfl := hrel
      · go_wp2
        go_ret
        exact ⟨ret_b HF.out, rfl⟩
  · have g0 : ((100 : Int) == c) = false := by simp; omega
    by_cases h1 : c = 49
    · have HF := Lib.hid (show true = hasF 7 c from by rw [h1]; rfl)
      subst h1
      go_enter Tryd.func18, Tryd.ntmps18
      go_wp2
      go_loop [6] (fun i => i = .int .i64 0 ∨ i = .int .i64 1) (fun i => 4 - (intOf i).toNat)
      case atStart => exact .inl rfl
      case round =>
        rcases hrel with rfl | rfl
        · go_wp2
          go_round
          case rel => exact .inr rfl
          case measure => simp [intOf]
        · go_wp2
          go_ret
          exact ⟨ret_b HF.out, rfl⟩
    · have g1 : ((49 : Int) == c) = false := by simp; omega
      by_cases h2 : c = 105
      · have HF := Lib.hid (show true = hasF 7 c from by rw [h2]; rfl)
        subst h2
        go_enter Tryd.func18, Tryd.ntmps18
        go_wp2
        go_loop [6] (fun i => i = .int .i64 0 ∨ i = .int .i64 1 ∨ i = .int .i64 2) (fun i => 4 - (intOf i).toNat)
        case atStart => exact .inl rfl
        case round =>
          rcases hrel with rfl | rfl | rfl
          · go_wp2
            go_round
            case rel => exact .inr (.inl rfl)
            case measure => simp [intOf]
          · go_wp2
            go_round
            case rel => exact .inr (.inr rfl)
            case measure => simp [intOf]
          · go_wp2
            go_ret
            exact ⟨ret_b HF.out, rfl⟩
      · have g2 : ((105 : Int) == c) = false := by simp; omega
        have HF := Lib.hid (show false = hasF 7 c from by simp [hasF, fieldsOf]; omega)
        have e0 : ((((⟨#[100, 49, 105]⟩ : ByteArray)[0]'(by decide)).toNat : Int) == c) = false := g0
        have e1 : ((((⟨#[100, 49, 105]⟩ : ByteArray)[1]'(by decide)).toNat : Int) == c) = false := g1
        have e2 : ((((⟨#[100, 49, 105]⟩ : ByteArray)[2]'(by decide)).toNat : Int) == c) = false := g2
        go_enter Tryd.func18, Tryd.ntmps18
        go_wp2
        go_loop [6] (fun i => i = .int .i64 0 ∨ i = .int .i64 1 ∨ i = .int .i64 2 ∨ i = .int .i64 3) (fun i => 4 - (intOf i).toNat)
        case atStart => exact .inl rfl
        case round =>
          rcases hrel with rfl | rfl | rfl | rfl
          · go_wp2
            go_round
            case rel => exact .inr (.inl rfl)
            case measure => simp [intOf]
          · go_wp2
            go_round
            case rel => exact .inr (.inr (.inl rfl))
            case measure => simp [intOf]
          · go_wp2
            go_round
            case rel => exact .inr (.inr (.inr rfl))
            case measure => simp [intOf]
          · go_wp2
            go_ret
            exact ⟨ret_b HF.out, rfl⟩
set_option maxHeartbeats 1000000 in
theorem refHas_8 (c : Int) (w : World) : Calls Tryd.prog 18 #[.string ⟨#[83, 104, 105, 102, 116, 87]⟩, .int .u8 c] w fun e w' => e = .returned (.bool (hasF 8 c)) ∧ w = w' := by
  by_cases h0 : c = 100
  · have HF := Lib.hid (show true = hasF 8 c from by rw [h0]; rfl)
    subst h0
    go_enter Tryd.func18, Tryd.ntmps18
    go_wp2
    go_loop [6] (fun i => i = .int .i64 0) (fun i => 4 - (intOf i).toNat)
    case atStart => exact rfl
    case round =>
      obtain rfl := hrel
      · go_wp2
        go_ret
        exact ⟨ret_b HF.out, rfl⟩
  · have g0 : ((100 : Int) == c) = false := by simp; omega
    by_cases h1 : c = 49
    · have HF := Lib.hid (show true = hasF 8 c from by rw [h1]; rfl)
      subst h1
      go_enter Tryd.func18, Tryd.ntmps18
      go_wp2
      go_loop [6] (fun i => i = .int .i64 0 ∨ i = .int .i64 1) (fun i => 4 - (intOf i).toNat)
      case atStart => exact .inl rfl
      case round =>
        rcases hrel with rfl | rfl
        · go_wp2
          go_round
          case rel => exact .inr rfl
          case measure => simp [intOf]
        · go_wp2
          go_ret
          exact ⟨ret_b HF.out, rfl⟩
    · have g1 : ((49 : Int) == c) = false := by simp; omega
      by_cases h2 : c = 105
      · have HF := Lib.hid (show true = hasF 8 c from by rw [h2]; rfl)
        subst h2
        go_enter Tryd.func18, Tryd.ntmps18
        go_wp2
        go_loop [6] (fun i => i = .int .i64 0 ∨ i = .int .i64 1 ∨ i = .int .i64 2) (fun i => 4 - (intOf i).toNat)
        case atStart => exact .inl rfl
        case round =>
          rcases hrel with rfl | rfl | rfl
          · go_wp2
            go_round
            case rel => exact .inr (.inl rfl)
            case measure => simp [intOf]
          · go_wp2
            go_round
            case rel => exact .inr (.inr rfl)
            case measure => simp [intOf]
          · go_wp2
            go_ret
            exact ⟨ret_b HF.out, rfl⟩
      · have g2 : ((105 : Int) == c) = false := by simp; omega
        have HF := Lib.hid (show false = hasF 8 c from by simp [hasF, fieldsOf]; omega)
        have e0 : ((((⟨#[100, 49, 105]⟩ : ByteArray)[0]'(by decide)).toNat : Int) == c) = false := g0
        have e1 : ((((⟨#[100, 49, 105]⟩ : ByteArray)[1]'(by decide)).toNat : Int) == c) = false := g1
        have e2 : ((((⟨#[100, 49, 105]⟩ : ByteArray)[2]'(by decide)).toNat : Int) == c) = false := g2
        go_enter Tryd.func18, Tryd.ntmps18
        go_wp2
        go_loop [6] (fun i => i = .int .i64 0 ∨ i = .int .i64 1 ∨ i = .int .i64 2 ∨ i = .int .i64 3) (fun i => 4 - (intOf i).toNat)
        case atStart => exact .inl rfl
        case round =>
          rcases hrel with rfl | rfl | rfl | rfl
          · go_wp2
            go_round
            case rel => exact .inr (.inl rfl)
            case measure => simp [intOf]
          · go_wp2
            go_round
            case rel => exact .inr (.inr (.inl rfl))
            case measure => simp [intOf]
          · go_wp2
            go_round
            case rel => exact .inr (.inr (.inr rfl))
            case measure => simp [intOf]
          · go_wp2
            go_ret
            exact ⟨ret_b HF.out, rfl⟩
set_option maxHeartbeats 1000000 in
theorem refHas_9 (c : Int) (w : World) : Calls Tryd.prog 18 #[.string ⟨#[67, 115, 114]⟩, .int .u8 c] w fun e w' => e = .returned (.bool (hasF 9 c)) ∧ w = w' := by
  by_cases h0 : c = 100
  · have HF := Lib.hid (show true = hasF 9 c from by rw [h0]; rfl)
    subst h0
    go_enter Tryd.func18, Tryd.ntmps18
    go_wp2
    go_loop [6] (fun i => i = .int .i64 0) (fun i => 4 - (intOf i).toNat)
    case atStart => exact rfl
    case round =>
      obtain rfl := hrel
      · go_wp2
        go_ret
        exact ⟨ret_b HF.out, rfl⟩
  · have g0 : ((100 : Int) == c) = false := by simp; omega
    by_cases h1 : c = 49
    · have HF := Lib.hid (show true = hasF 9 c from by rw [h1]; rfl)
      subst h1
      go_enter Tryd.func18, Tryd.ntmps18
      go_wp2
      go_loop [6] (fun i => i = .int .i64 0 ∨ i = .int .i64 1) (fun i => 4 - (intOf i).toNat)
      case atStart => exact .inl rfl
      case round =>
        rcases hrel with rfl | rfl
        · go_wp2
          go_round
          case rel => exact .inr rfl
          case measure => simp [intOf]
        · go_wp2
          go_ret
          exact ⟨ret_b HF.out, rfl⟩
    · have g1 : ((49 : Int) == c) = false := by simp; omega
      by_cases h2 : c = 99
      · have HF := Lib.hid (show true = hasF 9 c from by rw [h2]; rfl)
        subst h2
        go_enter Tryd.func18, Tryd.ntmps18
        go_wp2
        go_loop [6] (fun i => i = .int .i64 0 ∨ i = .int .i64 1 ∨ i = .int .i64 2) (fun i => 4 - (intOf i).toNat)
        case atStart => exact .inl rfl
        case round =>
          rcases hrel with rfl | rfl | rfl
          · go_wp2
            go_round
            case rel => exact .inr (.inl rfl)
            case measure => simp [intOf]
          · go_wp2
            go_round
            case rel => exact .inr (.inr rfl)
            case measure => simp [intOf]
          · go_wp2
            go_ret
            exact ⟨ret_b HF.out, rfl⟩
      · have g2 : ((99 : Int) == c) = false := by simp; omega
        have HF := Lib.hid (show false = hasF 9 c from by simp [hasF, fieldsOf]; omega)
        have e0 : ((((⟨#[100, 49, 99]⟩ : ByteArray)[0]'(by decide)).toNat : Int) == c) = false := g0
        have e1 : ((((⟨#[100, 49, 99]⟩ : ByteArray)[1]'(by decide)).toNat : Int) == c) = false := g1
        have e2 : ((((⟨#[100, 49, 99]⟩ : ByteArray)[2]'(by decide)).toNat : Int) == c) = false := g2
        go_enter Tryd.func18, Tryd.ntmps18
        go_wp2
        go_loop [6] (fun i => i = .int .i64 0 ∨ i = .int .i64 1 ∨ i = .int .i64 2 ∨ i = .int .i64 3) (fun i => 4 - (intOf i).toNat)
        case atStart => exact .inl rfl
        case round =>
          rcases hrel with rfl | rfl | rfl | rfl
          · go_wp2
            go_round
            case rel => exact .inr (.inl rfl)
            case measure => simp [intOf]
          · go_wp2
            go_round
            case rel => exact .inr (.inr (.inl rfl))
            case measure => simp [intOf]
          · go_wp2
            go_round
            case rel => exact .inr (.inr (.inr rfl))
            case measure => simp [intOf]
          · go_wp2
            go_ret
            exact ⟨ret_b HF.out, rfl⟩
set_option maxHeartbeats 1000000 in
theorem refHas_10 (c : Int) (w : World) : Calls Tryd.prog 18 #[.string ⟨#[67, 115, 114, 73]⟩, .int .u8 c] w fun e w' => e = .returned (.bool (hasF 10 c)) ∧ w = w' := by
  by_cases h0 : c = 100
  · have HF := Lib.hid (show true = hasF 10 c from by rw [h0]; rfl)
    subst h0
    go_enter Tryd.func18, Tryd.ntmps18
    go_wp2
    go_loop [6] (fun i => i = .int .i64 0) (fun i => 4 - (intOf i).toNat)
    case atStart => exact rfl
    case round =>
      obtain rfl := hrel
      · go_wp2
        go_ret
        exact ⟨ret_b HF.out, rfl⟩
  · have g0 : ((100 : Int) == c) = false := by simp; omega
    by_cases h1 : c = 49
    · have HF := Lib.hid (show true = hasF 10 c from by rw [h1]; rfl)
      subst h1
      go_enter Tryd.func18, Tryd.ntmps18
      go_wp2
      go_loop [6] (fun i => i = .int .i64 0 ∨ i = .int .i64 1) (fun i => 4 - (intOf i).toNat)
      case atStart => exact .inl rfl
      case round =>
        rcases hrel with rfl | rfl
        · go_wp2
          go_round
          case rel => exact .inr rfl
          case measure => simp [intOf]
        · go_wp2
          go_ret
          exact ⟨ret_b HF.out, rfl⟩
    · have g1 : ((49 : Int) == c) = false := by simp; omega
      by_cases h2 : c = 99
      · have HF := Lib.hid (show true = hasF 10 c from by rw [h2]; rfl)
        subst h2
        go_enter Tryd.func18, Tryd.ntmps18
        go_wp2
        go_loop [6] (fun i => i = .int .i64 0 ∨ i = .int .i64 1 ∨ i = .int .i64 2) (fun i => 4 - (intOf i).toNat)
        case atStart => exact .inl rfl
        case round =>
          rcases hrel with rfl | rfl | rfl
          · go_wp2
            go_round
            case rel => exact .inr (.inl rfl)
            case measure => simp [intOf]
          · go_wp2
            go_round
            case rel => exact .inr (.inr rfl)
            case measure => simp [intOf]
          · go_wp2
            go_ret
            exact ⟨ret_b HF.out, rfl⟩
      · have g2 : ((99 : Int) == c) = false := by simp; omega
        have HF := Lib.hid (show false = hasF 10 c from by simp [hasF, fieldsOf]; omega)
        have e0 : ((((⟨#[100, 49, 99]⟩ : ByteArray)[0]'(by decide)).toNat : Int) == c) = false := g0
        have e1 : ((((⟨#[100, 49, 99]⟩ : ByteArray)[1]'(by decide)).toNat : Int) == c) = false := g1
        have e2 : ((((⟨#[100, 49, 99]⟩ : ByteArray)[2]'(by decide)).toNat : Int) == c) = false := g2
        go_enter Tryd.func18, Tryd.ntmps18
        go_wp2
        go_loop [6] (fun i => i = .int .i64 0 ∨ i = .int .i64 1 ∨ i = .int .i64 2 ∨ i = .int .i64 3) (fun i => 4 - (intOf i).toNat)
        case atStart => exact .inl rfl
        case round =>
          rcases hrel with rfl | rfl | rfl | rfl
          · go_wp2
            go_round
            case rel => exact .inr (.inl rfl)
            case measure => simp [intOf]
          · go_wp2
            go_round
            case rel => exact .inr (.inr (.inl rfl))
            case measure => simp [intOf]
          · go_wp2
            go_round
            case rel => exact .inr (.inr (.inr rfl))
            case measure => simp [intOf]
          · go_wp2
            go_ret
            exact ⟨ret_b HF.out, rfl⟩
set_option maxHeartbeats 1000000 in
theorem refHas_11 (c : Int) (w : World) : Calls Tryd.prog 18 #[.string ⟨#[65]⟩, .int .u8 c] w fun e w' => e = .returned (.bool (hasF 11 c)) ∧ w = w' := by
  by_cases h0 : c = 100
  · have HF := Lib.hid (show true = hasF 11 c from by rw [h0]; rfl)
    subst h0
    go_enter Tryd.func18, Tryd.ntmps18
    go_wp2
    go_loop [6] (fun i => i = .int .i64 0) (fun i => 5 - (intOf i).toNat)
    case atStart => exact rfl
    case round =>
      obtain rfl := hrel
      · go_wp2
        go_ret
        exact ⟨ret_b HF.out, rfl⟩
  · have g0 : ((100 : Int) == c) = false := by simp; omega
    by_cases h1 : c = 49
    · have HF := Lib.hid (show true = hasF 11 c from by rw [h1]; rfl)
      subst h1
      go_enter Tryd.func18, Tryd.ntmps18
      go_wp2
      go_loop [6] (fun i => i = .int .i64 0 ∨ i = .int .i64 1) (fun i => 5 - (intOf i).toNat)
      case atStart => exact .inl rfl
      case round =>
        rcases hrel with rfl | rfl
        · go_wp2
          go_round
          case rel => exact .inr rfl
          case measure => simp [intOf]
        · go_wp2
          go_ret
          exact ⟨ret_b HF.out, rfl⟩
    · have g1 : ((49 : Int) == c) = false := by simp; omega
      by_cases h2 : c = 50
      · have HF := Lib.hid (show true = hasF 11 c from by rw [h2]; rfl)
        subst h2
        go_enter Tryd.func18, Tryd.ntmps18
        go_wp2
        go_loop [6] (fun i => i = .int .i64 0 ∨ i = .int .i64 1 ∨ i = .int .i64 2) (fun i => 5 - (intOf i).toNat)
        case atStart => exact .inl rfl
        case round =>
          rcases hrel with rfl | rfl | rfl
          · go_wp2
            go_round
            case rel => exact .inr (.inl rfl)
            case measure => simp [intOf]
          · go_wp2
            go_round
            case rel => exact .inr (.inr rfl)
            case measure => simp [intOf]
          · go_wp2
            go_ret
            exact ⟨ret_b HF.out, rfl⟩
      · have g2 : ((50 : Int) == c) = false := by simp; omega
        by_cases h3 : c = 113
        · have HF := Lib.hid (show true = hasF 11 c from by rw [h3]; rfl)
          subst h3
          go_enter Tryd.func18, Tryd.ntmps18
          go_wp2
          go_loop [6] (fun i => i = .int .i64 0 ∨ i = .int .i64 1 ∨ i = .int .i64 2 ∨ i = .int .i64 3) (fun i => 5 - (intOf i).toNat)
          case atStart => exact .inl rfl
          case round =>
            rcases hrel with rfl | rfl | rfl | rfl
            · go_wp2
              go_round
              case rel => exact .inr (.inl rfl)
              case measure => simp [intOf]
            · go_wp2
              go_round
              case rel => exact .inr (.inr (.inl rfl))
              case measure => simp [intOf]
            · go_wp2
              go_round
              case rel => exact .inr (.inr (.inr rfl))
              case measure => simp [intOf]
            · go_wp2
              go_ret
              exact ⟨ret_b HF.out, rfl⟩
        · have g3 : ((113 : Int) == c) = false := by simp; omega
          have HF := Lib.hid (show false = hasF 11 c from by simp [hasF, fieldsOf]; omega)
          have e0 : ((((⟨#[100, 49, 50, 113]⟩ : ByteArray)[0]'(by decide)).toNat : Int) == c) = false := g0
          have e1 : ((((⟨#[100, 49, 50, 113]⟩ : ByteArray)[1]'(by decide)).toNat : Int) == c) = false := g1
          have e2 : ((((⟨#[100, 49, 50, 113]⟩ : ByteArray)[2]'(by decide)).toNat : Int) == c) = false := g2
          have e3 : ((((⟨#[100, 49, 50, 113]⟩ : ByteArray)[3]'(by decide)).toNat : Int) == c) = false := g3
          go_enter Tryd.func18, Tryd.ntmps18
          go_wp2
          go_loop [6] (fun i => i = .int .i64 0 ∨ i = .int .i64 1 ∨ i = .int .i64 2 ∨ i = .int .i64 3 ∨ i = .int .i64 4) (fun i => 5 - (intOf i).toNat)
          case atStart => exact .inl rfl
          case round =>
            rcases hrel with rfl | rfl | rfl | rfl | rfl
            · go_wp2
              go_round
              case rel => exact .inr (.inl rfl)
              case measure => simp [intOf]
            · go_wp2
              go_round
              case rel => exact .inr (.inr (.inl rfl))
              case measure => simp [intOf]
            · go_wp2
              go_round
              case rel => exact .inr (.inr (.inr (.inl rfl)))
              case measure => simp [intOf]
            · go_wp2
              go_round
              case rel => exact .inr (.inr (.inr (.inr rfl)))
              case measure => simp [intOf]
            · go_wp2
              go_ret
              exact ⟨ret_b HF.out, rfl⟩
set_option maxHeartbeats 1000000 in
theorem refHas_12 (c : Int) (w : World) : Calls Tryd.prog 18 #[.string ⟨#[76, 114]⟩, .int .u8 c] w fun e w' => e = .returned (.bool (hasF 12 c)) ∧ w = w' := by
  by_cases h0 : c = 100
  · have HF := Lib.hid (show true = hasF 12 c from by rw [h0]; rfl)
    subst h0
    go_enter Tryd.func18, Tryd.ntmps18
    go_wp2
    go_loop [6] (fun i => i = .int .i64 0) (fun i => 4 - (intOf i).toNat)
    case atStart => exact rfl
    case round =>
      obtain rfl := hrel
      · go_wp2
        go_ret
        exact ⟨ret_b HF.out, rfl⟩
  · have g0 : ((100 : Int) == c) = false := by simp; omega
    by_cases h1 : c = 49
    · have HF := Lib.hid (show true = hasF 12 c from by rw [h1]; rfl)
      subst h1
      go_enter Tryd.func18, Tryd.ntmps18
      go_wp2
      go_loop [6] (fun i => i = .int .i64 0 ∨ i = .int .i64 1) (fun i => 4 - (intOf i).toNat)
      case atStart => exact .inl rfl
      case round =>
        rcases hrel with rfl | rfl
        · go_wp2
          go_round
          case rel => exact .inr rfl
          case measure => simp [intOf]
        · go_wp2
          go_ret
          exact ⟨ret_b HF.out, rfl⟩
    · have g1 : ((49 : Int) == c) = false := by simp; omega
      by_cases h2 : c = 113
      · have HF := Lib.hid (show true = hasF 12 c from by rw [h2]; rfl)
        subst h2
        go_enter Tryd.func18, Tryd.ntmps18
        go_wp2
        go_loop [6] (fun i => i = .int .i64 0 ∨ i = .int .i64 1 ∨ i = .int .i64 2) (fun i => 4 - (intOf i).toNat)
        case atStart => exact .inl rfl
        case round =>
          rcases hrel with rfl | rfl | rfl
          · go_wp2
            go_round
            case rel => exact .inr (.inl rfl)
            case measure => simp [intOf]
          · go_wp2
            go_round
            case rel => exact .inr (.inr rfl)
            case measure => simp [intOf]
          · go_wp2
            go_ret
            exact ⟨ret_b HF.out, rfl⟩
      · have g2 : ((113 : Int) == c) = false := by simp; omega
        have HF := Lib.hid (show false = hasF 12 c from by simp [hasF, fieldsOf]; omega)
        have e0 : ((((⟨#[100, 49, 113]⟩ : ByteArray)[0]'(by decide)).toNat : Int) == c) = false := g0
        have e1 : ((((⟨#[100, 49, 113]⟩ : ByteArray)[1]'(by decide)).toNat : Int) == c) = false := g1
        have e2 : ((((⟨#[100, 49, 113]⟩ : ByteArray)[2]'(by decide)).toNat : Int) == c) = false := g2
        go_enter Tryd.func18, Tryd.ntmps18
        go_wp2
        go_loop [6] (fun i => i = .int .i64 0 ∨ i = .int .i64 1 ∨ i = .int .i64 2 ∨ i = .int .i64 3) (fun i => 4 - (intOf i).toNat)
        case atStart => exact .inl rfl
        case round =>
          rcases hrel with rfl | rfl | rfl | rfl
          · go_wp2
            go_round
            case rel => exact .inr (.inl rfl)
            case measure => simp [intOf]
          · go_wp2
            go_round
            case rel => exact .inr (.inr (.inl rfl))
            case measure => simp [intOf]
          · go_wp2
            go_round
            case rel => exact .inr (.inr (.inr rfl))
            case measure => simp [intOf]
          · go_wp2
            go_ret
            exact ⟨ret_b HF.out, rfl⟩
set_option maxHeartbeats 1000000 in
theorem refHas_13 (c : Int) (w : World) : Calls Tryd.prog 18 #[.string ⟨#[66, 97, 114, 101]⟩, .int .u8 c] w fun e w' => e = .returned (.bool (hasF 13 c)) ∧ w = w' := by
  have HF := Lib.hid (show false = hasF 13 c from rfl)
  go_enter Tryd.func18, Tryd.ntmps18
  go_wp2
  go_loop [6] (fun i => i = .int .i64 0) (fun _ => 0)
  case atStart => rfl
  case round =>
    obtain rfl := hrel
    go_wp2
    go_ret
    exact ⟨ret_b HF.out, rfl⟩
set_option maxHeartbeats 1000000 in
theorem refHas_14 (c : Int) (w : World) : Calls Tryd.prog 18 #[.string ⟨#[83, 102, 101, 110, 99, 101]⟩, .int .u8 c] w fun e w' => e = .returned (.bool (hasF 14 c)) ∧ w = w' := by
  by_cases h0 : c = 49
  · have HF := Lib.hid (show true = hasF 14 c from by rw [h0]; rfl)
    subst h0
    go_enter Tryd.func18, Tryd.ntmps18
    go_wp2
    go_loop [6] (fun i => i = .int .i64 0) (fun i => 3 - (intOf i).toNat)
    case atStart => exact rfl
    case round =>
      obtain rfl := hrel
      · go_wp2
        go_ret
        exact ⟨ret_b HF.out, rfl⟩
  · have g0 : ((49 : Int) == c) = false := by simp; omega
    by_cases h1 : c = 50
    · have HF := Lib.hid (show true = hasF 14 c from by rw [h1]; rfl)
      subst h1
      go_enter Tryd.func18, Tryd.ntmps18
      go_wp2
      go_loop [6] (fun i => i = .int .i64 0 ∨ i = .int .i64 1) (fun i => 3 - (intOf i).toNat)
      case atStart => exact .inl rfl
      case round =>
        rcases hrel with rfl | rfl
        · go_wp2
          go_round
          case rel => exact .inr rfl
          case measure => simp [intOf]
        · go_wp2
          go_ret
          exact ⟨ret_b HF.out, rfl⟩
    · have g1 : ((50 : Int) == c) = false := by simp; omega
      have HF := Lib.hid (show false = hasF 14 c from by simp [hasF, fieldsOf]; omega)
      have e0 : ((((⟨#[49, 50]⟩ : ByteArray)[0]'(by decide)).toNat : Int) == c) = false := g0
      have e1 : ((((⟨#[49, 50]⟩ : ByteArray)[1]'(by decide)).toNat : Int) == c) = false := g1
      go_enter Tryd.func18, Tryd.ntmps18
      go_wp2
      go_loop [6] (fun i => i = .int .i64 0 ∨ i = .int .i64 1 ∨ i = .int .i64 2) (fun i => 3 - (intOf i).toNat)
      case atStart => exact .inl rfl
      case round =>
        rcases hrel with rfl | rfl | rfl
        · go_wp2
          go_round
          case rel => exact .inr (.inl rfl)
          case measure => simp [intOf]
        · go_wp2
          go_round
          case rel => exact .inr (.inr rfl)
          case measure => simp [intOf]
        · go_wp2
          go_ret
          exact ⟨ret_b HF.out, rfl⟩
theorem refHas_c (f : Nat) (hf : f < 15) (c : Int) (w : World) : Calls Tryd.prog 18 #[strV (Tab.names3.getD f []), .int .u8 c] w fun e w' => e = .returned (.bool (hasF f c)) ∧ w = w' := by
  match f, hf with
  | 0, _ => exact refHas_0 c w
  | 1, _ => exact refHas_1 c w
  | 2, _ => exact refHas_2 c w
  | 3, _ => exact refHas_3 c w
  | 4, _ => exact refHas_4 c w
  | 5, _ => exact refHas_5 c w
  | 6, _ => exact refHas_6 c w
  | 7, _ => exact refHas_7 c w
  | 8, _ => exact refHas_8 c w
  | 9, _ => exact refHas_9 c w
  | 10, _ => exact refHas_10 c w
  | 11, _ => exact refHas_11 c w
  | 12, _ => exact refHas_12 c w
  | 13, _ => exact refHas_13 c w
  | 14, _ => exact refHas_14 c w
end Go.Proofs.YteknlcigfjdmdaaDoor
