/-
  Contracts of regs.Find and of the reference's Find.
-/
import Derived.Test.YtbhmnkamfkadiaaDoorReg3
namespace Go.Proofs.YtbhmnkamfkadiaaDoor
open Go.ChangeShapes Go.WideShapes Go.ChangeAt Go.RowKit

def xB (k : Nat) : ByteArray := ⟨#[120]⟩ ++ bsR (digR k)
def hitN (s : ByteArray) (k : Nat) : Bool := s.toList == (bsR (nmR k)).toList
def hitX (s : ByteArray) (k : Nat) : Bool := s.toList == (xB k).toList
def hitR (s : ByteArray) (k : Nat) : Bool := hitN s k || hitX s k
def fpR (s : ByteArray) : Bool := s.toList == [102, 112]
/-- The register that a name denotes. -/
def findR (s : ByteArray) : Option Nat := (List.range 32).find? fun k => hitR s k || (k == 8 && fpR s)
theorem range_step (k : Nat) (h : k < 32) (p : Nat → Bool) (hp : ∀ j, j < k → p j = false) : (List.range 32).find? p = if p k then some k else ((List.range 32).drop (k + 1)).find? p := by
  have e : List.range 32 = List.range k ++ k :: (List.range 32).drop (k + 1) := by
    have h1 : List.range 32 = (List.range 32).take k ++ (List.range 32).drop k := (List.take_append_drop k _).symm
    have h2 : (List.range 32).take k = List.range k := by rw [List.take_range]; congr 1; omega
    have h3 : (List.range 32).drop k = k :: (List.range 32).drop (k + 1) := by
      rw [List.drop_eq_getElem_cons (by simpa using h)]; simp
    rw [h2, h3] at h1
    exact h1
  rw [e, List.find?_append, List.find?_cons]
  have hn : (List.range k).find? p = none := by rw [List.find?_eq_none]; intro x hx; simpa using hp x (by simpa using hx)
  rw [hn]
  have e2 : (List.range k ++ k :: (List.range 32).drop (k + 1)).drop (k + 1) = (List.range 32).drop (k + 1) := by rw [← e]
  rw [e2]
  cases p k <;> simp
theorem find_hit (p : Nat → Bool) (k : Nat) (h : k < 32) (hp : ∀ j, j < k → p j = false) (hk : p k = true) : (List.range 32).find? p = some k := by rw [range_step k h p hp, hk]; rfl
theorem find_none (p : Nat → Bool) (hp : ∀ j, j < 32 → p j = false) : (List.range 32).find? p = none := by
  rw [List.find?_eq_none]; intro x hx; simpa using hp x (by simpa using hx)
theorem fp_none : ∀ k : Fin 32, (([102, 112] : List UInt8) == (bsR (nmR k.val)).toList) = false ∧ (([102, 112] : List UInt8) == (xB k.val).toList) = false := by decide +kernel
theorem find_fp (s : ByteArray) (h : fpR s = true) : findR s = some 8 := by
  have e : s.toList = [102, 112] := by simpa [fpR] using h
  refine find_hit _ 8 (by decide) (fun j hj => ?_) ?_
  · obtain ⟨a, b⟩ := fp_none ⟨j, by omega⟩
    have hne : (j == 8) = false := by simp; omega
    simp only [hitR, hitN, hitX, e]
    simp only at a b
    rw [a, b, hne]; rfl
  · rw [h]; simp
theorem x_size : ∀ k : Fin 32, (bsR (digR k.val)).size ≤ 2 := by decide +kernel
/-- What Find tells, with a bool. -/
def findV (s : ByteArray) : Value := match findR s with | some k => .tuple #[.int .i64 k, .bool true] | none => .tuple #[.int .i64 0, .bool false]
set_option maxHeartbeats 1000000 in
theorem rfind_c (s : ByteArray) (w : World) (hN : NamesAt w) : Calls Tryd.prog 10 #[.string s] w fun e w' => e = .returned (findV s) ∧ w = w' := by
  cases hfp : fpR s
  · have e0 : (s.toList == [102, 112]) = false := hfp
    have HP := Lib.hid (show ∀ k, (hitR s k || (k == 8 && fpR s)) = hitR s k from fun k => by rw [hfp]; simp)
    have HN := Lib.hid hN
    clear hN hfp
    go_enter Tryd.func10, Tryd.ntmps10
    go_wp2_with fail
    go_loop [7] (fun t => ∃ k : Nat, k ≤ 32 ∧ t = .int .i64 k ∧ ∀ j, j < k → hitR s j = false) (fun t => 32 - (intOf t).toNat)
    case atStart => exact ⟨0, by decide, rfl, fun j hj => absurd hj (by omega)⟩
    case round =>
      obtain ⟨k, hk, rfl, hno⟩ := hrel
      have HO := Lib.hid hno
      clear hno
      by_cases hlt : k < 32
      · have hl2 : (k : Int) < 32 := by omega
        have hc := HN.out.2 k hlt
        have hz := x_size ⟨k, hlt⟩
        simp only at hz
        cases h1 : hitN s k
        · have e1 : (s.toList == (bsR (nmR k)).toList) = false := h1
          cases h2 : hitX s k
          · have e2 : (s.toList == (⟨#[120]⟩ ++ bsR (digR k) : ByteArray).toList) = false := h2
            have HH := Lib.hid (show hitR s k = false by rw [hitR, h1, h2]; rfl)
            clear h1 h2
            go_wp2_with fail
            refine (itoa_c k (by omega) _).mono ?_
            rintro e w1 ⟨rfl, rfl⟩
            go_wp2_with fail
            go_round
            case rel => exact ⟨k + 1, by omega, by go_num, fun j hj => by
              rcases Nat.lt_succ_iff_lt_or_eq.1 hj with h | rfl
              · exact HO.out j h
              · exact HH.out⟩
            case measure => simp [intOf]; omega
          · have e2 : (s.toList == (⟨#[120]⟩ ++ bsR (digR k) : ByteArray).toList) = true := h2
            have HH := Lib.hid (show findV s = .tuple #[.int .i64 k, .bool true] by
              have hf : findR s = some k := find_hit _ k hlt (fun j hj => by rw [HP.out]; exact HO.out j hj) (by rw [HP.out, hitR, h1, h2]; rfl)
              simp only [findV, hf])
            clear h1 h2
            go_wp2_with fail
            refine (itoa_c k (by omega) _).mono ?_
            rintro e w1 ⟨rfl, rfl⟩
            go_wp2_with fail
            go_ret2
            exact ⟨by rw [HH.out]; rfl, rfl⟩
        · have e1 : (s.toList == (bsR (nmR k)).toList) = true := h1
          have HH := Lib.hid (show findV s = .tuple #[.int .i64 k, .bool true] by
            have hf : findR s = some k := find_hit _ k hlt (fun j hj => by rw [HP.out]; exact HO.out j hj) (by rw [HP.out, hitR, h1]; rfl)
            simp only [findV, hf])
          clear h1
          go_wp2_with fail
          go_ret2
          exact ⟨by rw [HH.out]; rfl, rfl⟩
      · obtain rfl : k = 32 := by omega
        have HH := Lib.hid (show findV s = .tuple #[.int .i64 0, .bool false] by
          have hf : findR s = none := find_none _ (fun j hj => by rw [HP.out]; exact HO.out j hj)
          simp only [findV, hf])
        go_wp2_with fail
        go_ret2
        exact ⟨by rw [HH.out]; rfl, rfl⟩
  · have e0 : (s.toList == [102, 112]) = true := hfp
    have HH := Lib.hid (show findV s = .tuple #[.int .i64 8, .bool true] by simp only [findV, find_fp s hfp]; rfl)
    clear hN hfp
    go_enter Tryd.func10, Tryd.ntmps10
    go_wp2_with fail
    go_ret2
    exact ⟨by rw [HH.out]; rfl, rfl⟩
def findI (s : ByteArray) : Int := match findR s with | some k => k | none => -1
theorem names_cell (w : World) (k : Nat) (hk : k < 32) : (w.alloc (.cells (namesR.map strR).toArray 9)).cell? ⟨w.heap.size, k, none⟩ = some (strR (nmR k)) := by
  have h := cell_of_row (w.alloc (.cells (namesR.map strR).toArray 9)) w.heap.size k _ _ _ (by show (w.heap.push _)[w.heap.size]? = _; simp; exact ⟨rfl, rfl, rfl⟩)
  rw [h]
  have hl : k < namesR.length := hk
  simp [nmR, List.getD, List.getElem?_eq_getElem hl]
set_option maxHeartbeats 1000000 in
theorem refFind_c (s : ByteArray) (w : World) : Calls Tryd.prog 9 #[.string s] w fun e w' => e = .returned (.int .i64 (findI s)) ∧ Below w.heap.size w w' := by
  have HC := Lib.hid (names_cell w)
  have HB := Lib.hid (show Below w.heap.size w (w.alloc (.cells (namesR.map strR).toArray 9)) from (Below.refl _ _).alloc (Nat.le_refl _) _)
  have HZ := Lib.hid (show w.heap.size < (w.alloc (.cells (namesR.map strR).toArray 9)).heap.size by simp)
  go_enter Tryd.func9, Tryd.ntmps9
  go_wp2_with fail
  refine (refNames5_c _).mono ?_
  rintro e w1 ⟨rfl, rfl⟩
  generalize (w.alloc (.cells (namesR.map strR).toArray 9)) = w0 at *
  go_wp2_with fail
  go_loopw [4] (fun t wr => ∃ k : Nat, k ≤ 32 ∧ t = .int .i64 k ∧ (∀ j, j < k → (hitR s j || (j == 8 && fpR s)) = false) ∧ Below w0.heap.size w0 wr) (fun t _ => 32 - (intOf t).toNat)
  case atStart => exact ⟨0, by decide, rfl, fun j hj => absurd hj (by omega), Below.refl _ _⟩
  case round =>
    obtain ⟨k, hk, rfl, hno, hb⟩ := hrel
    have HO := Lib.hid hno
    have HK := Lib.hid hb
    clear hno
    by_cases hlt : k < 32
    · have hl2 : (k : Int) < 32 := by omega
      have hc := (hb.cell (p := ⟨w.heap.size, k, none⟩) HZ.out).trans (HC.out k hlt)
      have hz := x_size ⟨k, hlt⟩
      simp only at hz
      clear hb
      have HR := Lib.hid (fun h => find_hit (fun k => hitR s k || (k == 8 && fpR s)) k hlt HO.out h)
      cases h1 : hitN s k
      · have e1 : (s.toList == (bsR (nmR k)).toList) = false := h1
        cases h2 : hitX s k
        · have e2 : (s.toList == (⟨#[120]⟩ ++ bsR (digR k) : ByteArray).toList) = false := h2
          have hR : hitR s k = false := by rw [hitR, h1, h2]; rfl
          by_cases h8 : k = 8
          · have e8 : ((k : Int) == 8) = true := by simp; omega
            rcases (show fpR s = false ∨ fpR s = true by cases fpR s <;> simp) with hfp | hfp
            · have ef : (s.toList == [102, 112]) = false := hfp
              have HH := Lib.hid (show (hitR s k || (k == 8 && fpR s)) = false by rw [hR, hfp]; simp)
              clear h1 h2 hR hfp h8
              go_wp2_with fail
              refine (digits_c k (by omega) _).mono ?_
              rintro e w1 ⟨rfl, hb⟩
              have HK2 := Lib.hid (HK.out.trans (hb.mono HK.out.size))
              clear hb
              go_wp2_with fail
              go_roundw
              case rel => exact ⟨k + 1, by omega, by go_num, (fun j hj => by
                rcases Nat.lt_succ_iff_lt_or_eq.1 hj with h | rfl
                · exact HO.out j h
                · exact HH.out), HK2.out⟩
              case measure => simp [intOf]; omega
            · have ef : (s.toList == [102, 112]) = true := hfp
              have HH := Lib.hid (show findI s = k by have := HR.out (by rw [hR, hfp]; simp; omega); unfold findI; simp only [findR, this])
              clear h1 h2 hR hfp h8
              go_wp2_with fail
              refine (digits_c k (by omega) _).mono ?_
              rintro e w1 ⟨rfl, hb⟩
              have HK2 := Lib.hid (HK.out.trans (hb.mono HK.out.size))
              clear hb
              go_wp2_with fail
              go_ret
              exact ⟨by rw [HH.out]; rfl, HB.out.trans (HK2.out.mono HB.out.size)⟩
          · have e8 : ((k : Int) == 8) = false := by simp; omega
            have HH := Lib.hid (show (hitR s k || (k == 8 && fpR s)) = false by rw [hR]; simp [h8])
            clear h1 h2 hR
            go_wp2_with fail
            refine (digits_c k (by omega) _).mono ?_
            rintro e w1 ⟨rfl, hb⟩
            have HK2 := Lib.hid (HK.out.trans (hb.mono HK.out.size))
            clear hb
            go_wp2_with fail
            go_roundw
            case rel => exact ⟨k + 1, by omega, by go_num, (fun j hj => by
              rcases Nat.lt_succ_iff_lt_or_eq.1 hj with h | rfl
              · exact HO.out j h
              · exact HH.out), HK2.out⟩
            case measure => simp [intOf]; omega
        · have e2 : (s.toList == (⟨#[120]⟩ ++ bsR (digR k) : ByteArray).toList) = true := h2
          have HH := Lib.hid (show findI s = k by have := HR.out (by rw [hitR, h1, h2]; rfl); unfold findI; simp only [findR, this])
          clear h1 h2
          go_wp2_with fail
          refine (digits_c k (by omega) _).mono ?_
          rintro e w1 ⟨rfl, hb⟩
          have HK2 := Lib.hid (HK.out.trans (hb.mono HK.out.size))
          clear hb
          go_wp2_with fail
          go_ret
          exact ⟨by rw [HH.out]; rfl, HB.out.trans (HK2.out.mono HB.out.size)⟩
      · have e1 : (s.toList == (bsR (nmR k)).toList) = true := h1
        have HH := Lib.hid (show findI s = k by have := HR.out (by rw [hitR, h1]; rfl); unfold findI; simp only [findR, this])
        clear h1
        go_wp2_with fail
        go_ret
        exact ⟨by rw [HH.out]; rfl, HB.out.trans (HK.out.mono HB.out.size)⟩
    · obtain rfl : k = 32 := by omega
      have HH := Lib.hid (show findI s = -1 by have := find_none (fun k => hitR s k || (k == 8 && fpR s)) HO.out; unfold findI; simp only [findR, this])
      clear hb
      go_wp2_with fail
      go_ret
      exact ⟨by rw [HH.out]; rfl, HB.out.trans (HK.out.mono HB.out.size)⟩
end Go.Proofs.YtbhmnkamfkadiaaDoor
