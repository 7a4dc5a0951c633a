/-
  Contracts of slices.Index, Contains, IndexFunc, ContainsFunc, Clone at []int.
-/
import Derived.Test.YtgegahnjhaldeaaSrtD
import Derived.Shelf.Abstract
namespace Go.Proofs.Ytgegahnjhaldeaa
open Go.ChangeShapes Go.WideShapes Go.ChangeAt Go.RowKit

namespace Lk
/-- Where the first one lies of which p is so, if it is looked for from place k on; -1: nowhere. -/
def idxF (p : Int → Bool) : Nat → List Int → Int
  | _, [] => -1
  | k, y :: ys => if p y then (k : Int) else idxF p (k + 1) ys
def idx (p : Int → Bool) (xs : List Int) : Int := idxF p 0 xs
theorem idxF_at (p : Int → Bool) : ∀ (xs : List Int) (o k : Nat), k < xs.length → (∀ i, i < k → p (xs.getD i 0) = false) → p (xs.getD k 0) = true → idxF p o xs = ((o + k : Nat) : Int)
  | [], _, _, h, _, _ => by simp at h
  | y :: ys, o, 0, _, _, h => by
    have h' : p y = true := h
    simp [idxF, h']
  | y :: ys, o, k + 1, h, hn, hp => by
    have h0 : p y = false := hn 0 (by omega)
    have := idxF_at p ys (o + 1) k (by simpa using h) (fun i hi => hn (i + 1) (by omega)) hp
    simp only [idxF, h0, Bool.false_eq_true, if_false, this]
    omega
theorem idxF_no (p : Int → Bool) : ∀ (xs : List Int) (o : Nat), (∀ i, i < xs.length → p (xs.getD i 0) = false) → idxF p o xs = -1
  | [], _, _ => rfl
  | y :: ys, o, h => by
    have h0 : p y = false := h 0 (by simp)
    simp only [idxF, h0, Bool.false_eq_true, if_false]
    exact idxF_no p ys (o + 1) fun i hi => h (i + 1) (by simpa using hi)
theorem idx_at {p : Int → Bool} {xs : List Int} {k : Nat} (h : k < xs.length) (hn : ∀ i, i < k → p (xs.getD i 0) = false) (hp : p (xs.getD k 0) = true) : idx p xs = (k : Int) := by
  have := idxF_at p xs 0 k h hn hp
  simpa [idx] using this
theorem idx_no {p : Int → Bool} {xs : List Int} (h : ∀ i, i < xs.length → p (xs.getD i 0) = false) : idx p xs = -1 := idxF_no p xs 0 h
theorem idxF_any (p : Int → Bool) : ∀ (xs : List Int) (o : Nat), decide (idxF p o xs ≥ 0) = xs.any p
  | [], _ => rfl
  | y :: ys, o => by
    have ih := idxF_any p ys (o + 1)
    by_cases h : p y = true
    · have : (0 : Int) ≤ (o : Int) := by omega
      simp [idxF, h]
    · simp only [idxF, h, List.any_cons, Bool.false_or]
      exact ih
theorem idx_any (p : Int → Bool) (xs : List Int) : decide (idx p xs ≥ 0) = xs.any p := idxF_any p xs 0
theorem idxF_range (p : Int → Bool) : ∀ (xs : List Int) (o : Nat), idxF p o xs = -1 ∨ ((o : Int) ≤ idxF p o xs ∧ idxF p o xs < o + xs.length)
  | [], _ => .inl rfl
  | y :: ys, o => by
    have ih := idxF_range p ys (o + 1)
    by_cases h : p y = true
    · simp only [idxF, h, if_true, List.length_cons]
      omega
    · simp only [idxF, h, if_false, List.length_cons, Bool.false_eq_true]
      omega
theorem idx_range (p : Int → Bool) (xs : List Int) : idx p xs = -1 ∨ (0 ≤ idx p xs ∧ idx p xs < xs.length) := by
  have := idxF_range p xs 0
  simpa [idx] using this
end Lk

theorem iV_len (xs : List Int) : (iV xs).length = xs.length := List.length_map _
theorem Vw.cells {w : World} {p : Option Addr} {xs : List Int} (h : Vw w p (iV xs)) (hp : 0 < xs.length) : ∃ b off, p = some ⟨b, off, none⟩ ∧ b < w.heap.size ∧ ∀ j, j < xs.length → w.cell? ⟨b, off + j, none⟩ = some (.int .i64 (xs.getD j 0)) := by
  rcases h with h | ⟨b, off, rfl, hb, hc⟩
  · have : xs.length = 0 := by rw [← iV_len xs, h]; rfl
    omega
  · exact ⟨b, off, rfl, hb, fun j hj => hc j _ (iV_at xs j hj)⟩
theorem len_zero {xs : List Int} (h : ¬ 0 < xs.length) : xs = [] := List.length_eq_zero_iff.1 (by omega)

set_option maxHeartbeats 1000000 in
theorem index_c (p : Option Addr) (cap : Nat) (xs : List Int) (x : Int) (w : World) (hv : Vw w p (iV xs)) (hl : xs.length ≤ 1000000) :
    Calls Try.prog 47 #[.slice p xs.length cap, .int .i64 x] w fun e w' => e = .returned (.int .i64 (Lk.idx (fun y => x == y) xs)) ∧ w = w' := by
  by_cases hp : 0 < xs.length
  · obtain ⟨b, off, rfl, -, hc⟩ := hv.cells hp
    have HC := Lib.hid hc
    clear hc hv
    go_enter Try.func47, Try.ntmps47
    go_wp2_with fail
    go_loop [5, 8] (fun _ iv => ∃ k : Nat, k ≤ xs.length ∧ iv = .int .i64 k ∧ ∀ i, i < k → (x == xs.getD i 0) = false) (fun _ iv => xs.length - (intOf iv).toNat)
    case atStart => exact ⟨0, Nat.zero_le _, rfl, fun i h => by omega⟩
    case round =>
      obtain ⟨k, hk, rfl, hn⟩ := hrel
      have HN := Lib.hid hn
      clear hn
      by_cases hlt : k < xs.length
      · have c := HC.out k hlt
        have g : (k : Int) < xs.length := by omega
        cases he : (x == xs.getD k 0)
        · have HE := Lib.hid he
          generalize xs.getD k 0 = y at c he
          go_wp2_with fail
          go_round
          case rel => exact ⟨k + 1, by omega, by go_num, fun i hi => if e : i = k then e ▸ HE.out else HN.out i (by omega)⟩
          case measure => simp [intOf]; omega
        · have HE := Lib.hid (Lk.idx_at hlt HN.out he)
          generalize xs.getD k 0 = y at c he
          go_wp2_with fail
          go_ret
          exact ⟨by rw [HE.out]; rfl, rfl⟩
      · obtain rfl : k = xs.length := by omega
        have HE := Lib.hid (Lk.idx_no HN.out)
        go_wp2_with fail
        go_ret
        exact ⟨by rw [HE.out]; rfl, rfl⟩
  · obtain rfl := len_zero hp
    go_enter Try.func47, Try.ntmps47
    go_wp2_with fail
    go_loop [5, 8] (fun _ iv => iv = .int .i64 0) (fun _ _ => 0)
    case atStart => rfl
    case round =>
      subst hrel
      go_wp2_with fail
      go_ret
      exact ⟨rfl, rfl⟩
theorem contains_c (p : Option Addr) (cap : Nat) (xs : List Int) (x : Int) (w : World) (hv : Vw w p (iV xs)) (hl : xs.length ≤ 1000000) :
    Calls Try.prog 35 #[.slice p xs.length cap, .int .i64 x] w fun e w' => e = .returned (.bool (xs.any fun y => x == y)) ∧ w = w' := by
  have HV := Lib.hid hv
  clear hv
  go_enter Try.func35, Try.ntmps35
  go_wp2_with fail
  refine (index_c _ _ _ _ _ HV.out hl).mono ?_
  rintro e w' ⟨rfl, rfl⟩
  have HA := Lib.hid (Lk.idx_any (fun y => x == y) xs)
  generalize Lk.idx (fun y => x == y) xs = d at *
  go_wp2_with fail
  go_ret
  exact ⟨by rw [← HA.out]; rfl, rfl⟩

def InI (i : Int) : Prop := -9223372036854775808 ≤ i ∧ i ≤ 9223372036854775807
/-- A function value that tells p of numbers, in any world that S lets. -/
structure Tells (base : Nat) (S : World → Prop) (F : FuncId) (cap : Array Value) (p : Int → Bool) : Prop where
  run : ∀ x W, InI x → S W → base ≤ W.heap.size → Calls Try.prog F (#[.int .i64 x] ++ cap) W fun e W' => e = .returned (.bool (p x)) ∧ Below W.heap.size W W'
  low : ∀ W W', S W → Below base W W' → S W'
  enters : Go.Proofs.Enters Try.prog F
set_option maxHeartbeats 1000000 in
theorem indexF_c (base : Nat) (S : World → Prop) (F : FuncId) (cs : Array Value) (f : Int → Bool) (hT : Tells base S F cs f) (p : Option Addr) (cap : Nat) (xs : List Int) (w : World) (hS : S w) (hb : base ≤ w.heap.size) (hv : Vw w p (iV xs)) (hi : ∀ j, j < xs.length → InI (xs.getD j 0)) (hl : xs.length ≤ 1000000) :
    Calls Try.prog 54 #[.slice p xs.length cap, .func (.func F) #[] cs] w fun e w' => e = .returned (.int .i64 (Lk.idx f xs)) ∧ Below w.heap.size w w' := by
  have HS := Lib.hid hS
  have HT := Lib.hid hT
  clear hS hT
  by_cases hp : 0 < xs.length
  · obtain ⟨b, off, rfl, hbl, hc⟩ := hv.cells hp
    have HC := Lib.hid hc
    have HL := Lib.hid hbl
    clear hc hv hbl
    go_enter Try.func54, Try.ntmps54
    go_wp2_with fail
    go_loopw [5, 8] (fun _ iv wr => ∃ k : Nat, k ≤ xs.length ∧ iv = .int .i64 k ∧ (∀ i, i < k → f (xs.getD i 0) = false) ∧ Below w.heap.size w wr) (fun _ iv _ => xs.length - (intOf iv).toNat)
    case atStart => exact ⟨0, Nat.zero_le _, rfl, fun i h => by omega, Below.refl _ _⟩
    case round =>
      obtain ⟨k, hk, rfl, hn, hbel⟩ := hrel
      have HN := Lib.hid hn
      have HB := Lib.hid hbel
      clear hn hbel
      by_cases hlt : k < xs.length
      · have c := (HB.out.cell (p := ⟨b, off + k, none⟩) HL.out).trans (HC.out k hlt)
        have g : (k : Int) < xs.length := by omega
        have HSr := Lib.hid (HT.out.low w wr HS.out (HB.out.mono hb))
        cases he : f (xs.getD k 0)
        · have HE := Lib.hid he
          have HR := Lib.hid (HT.out.run (xs.getD k 0) wr (hi k hlt) HSr.out (Nat.le_trans hb HB.out.size))
          rw [he] at HR
          generalize xs.getD k 0 = y at c HR
          clear he
          go_wp2_with fail
          rw [HT.out.enters]
          refine HR.out.mono ?_
          rintro e w2 ⟨rfl, hb2⟩
          have HB2 := Lib.hid (HB.out.trans (hb2.mono HB.out.size))
          clear hb2
          go_wp2_with fail
          go_roundw
          case rel => exact ⟨k + 1, by omega, by go_num, fun i hi => if e : i = k then e ▸ HE.out else HN.out i (by omega), HB2.out⟩
          case measure => simp [intOf]; omega
        · have HE := Lib.hid (Lk.idx_at hlt HN.out he)
          have HR := Lib.hid (HT.out.run (xs.getD k 0) wr (hi k hlt) HSr.out (Nat.le_trans hb HB.out.size))
          rw [he] at HR
          generalize xs.getD k 0 = y at c HR
          clear he
          go_wp2_with fail
          rw [HT.out.enters]
          refine HR.out.mono ?_
          rintro e w2 ⟨rfl, hb2⟩
          have HB2 := Lib.hid (HB.out.trans (hb2.mono HB.out.size))
          clear hb2
          go_wp2_with fail
          go_ret
          exact ⟨by rw [HE.out]; rfl, HB2.out⟩
      · obtain rfl : k = xs.length := by omega
        have HE := Lib.hid (Lk.idx_no HN.out)
        go_wp2_with fail
        go_ret
        exact ⟨by rw [HE.out]; rfl, HB.out⟩
  · obtain rfl := len_zero hp
    go_enter Try.func54, Try.ntmps54
    go_wp2_with fail
    go_loop [5, 8] (fun _ iv => iv = .int .i64 0) (fun _ _ => 0)
    case atStart => rfl
    case round =>
      subst hrel
      go_wp2_with fail
      go_ret
      exact ⟨rfl, Below.refl _ _⟩
theorem containsF_c (base : Nat) (S : World → Prop) (F : FuncId) (cs : Array Value) (f : Int → Bool) (hT : Tells base S F cs f) (p : Option Addr) (cap : Nat) (xs : List Int) (w : World) (hS : S w) (hb : base ≤ w.heap.size) (hv : Vw w p (iV xs)) (hi : ∀ j, j < xs.length → InI (xs.getD j 0)) (hl : xs.length ≤ 1000000) :
    Calls Try.prog 55 #[.slice p xs.length cap, .func (.func F) #[] cs] w fun e w' => e = .returned (.bool (xs.any f)) ∧ Below w.heap.size w w' := by
  have HC := Lib.hid (indexF_c base S F cs f hT p cap xs w hS hb hv hi hl)
  clear hT hS hb hv
  go_enter Try.func55, Try.ntmps55
  go_wp2_with fail
  refine HC.out.mono ?_
  rintro e w' ⟨rfl, hb2⟩
  have HB := Lib.hid hb2
  have HA := Lib.hid (Lk.idx_any f xs)
  generalize Lk.idx f xs = d at *
  clear hb2
  go_wp2_with fail
  go_ret
  exact ⟨by rw [← HA.out]; rfl, HB.out⟩
theorem info_intL : (Try.prog.info? 3).map (fun i => (i.zero, i.size, i.bytes)) = some (some (.int .i64 0), 1, 8) := by kernel_rfl
theorem sl_not_nil (a : Addr) (n c : Nat) (w : World) : (binOp .eql 36 (.slice (some a) n c) (.slice none 0 0)).run Try.prog w = .ok (.bool false) w := by kernel_rfl
theorem sl_is_nil (w : World) : (binOp .eql 36 (.slice none 0 0) (.slice none 0 0)).run Try.prog w = .ok (.bool true) w := by kernel_rfl
set_option maxHeartbeats 1000000 in
theorem clone_none (w : World) : Calls Try.prog 40 #[.slice none 0 0] w fun e w' => e = .returned (.slice none 0 0) ∧ w = w' := by
  have hq := sl_is_nil
  go_enter Try.func40, Try.ntmps40
  go_wp2_with fail
  go_ret
  exact ⟨rfl, rfl⟩
set_option maxHeartbeats 1000000 in
theorem clone_some (ad : Addr) (cap : Nat) (xs : List Int) (w : World) (hv : Vw w (some ad) (iV xs)) (hl : xs.length ≤ 900000) :
    Calls Try.prog 40 #[.slice (some ad) xs.length cap] w fun e w' => ∃ v, e = .returned v ∧ w'.ownsRow w.heap.size 3 1 v xs.length (iV xs) ∧ Below w.heap.size w w' := by
  have HV := Lib.hid (hv.low ((Below.refl w.heap.size w).alloc (Nat.le_refl _) (.cells #[] 3)))
  have HO := Lib.hid (show (w.alloc (.cells #[] 3)).ownsRow w.heap.size 3 1 (.slice (some ⟨w.heap.size, 0, none⟩) 0 0) 0 [] from
    ⟨rfl, .inr ⟨w.heap.size, 0, #[], rfl, Nat.le_refl _, CsAt.new w 3 #[], Nat.le_refl _, Nat.zero_le _, rfl, rfl⟩⟩)
  have HB := Lib.hid ((Below.refl w.heap.size w).alloc (Nat.le_refl _) (.cells #[] 3))
  have hq := sl_not_nil ad xs.length cap
  clear hv
  go_enter Try.func40, Try.ntmps40
  go_wp2_with (at_builtin; refine wpList_cat rfl _ _ 36 rfl w.heap.size 3 _ 1 8 Try.underlying36 info_intL rfl (by omega) (by omega) _ 0 [] rfl HO.out _ xs.length cap (iV xs) rfl HV.out (by simp) (fun u hu => by obtain ⟨x, -, rfl⟩ := List.mem_map.1 hu; rfl) (by omega) HB.out.size ?_)
  intro v' w' hown hb
  have HW := Lib.hid (show w'.ownsRow w.heap.size 3 1 v' xs.length (iV xs) by simpa using hown)
  have HB2 := Lib.hid (HB.out.trans hb)
  clear hown hb
  go_wp2_with fail
  go_ret
  exact ⟨_, rfl, HW.out, HB2.out⟩
/-- A slice that isn't nil, or the nil one. -/
theorem clone_w (p : Option Addr) (cap : Nat) (xs : List Int) (w : World) (hv : Vw w p (iV xs)) (hp : p = none → cap = 0) (hl : xs.length ≤ 900000) :
    Calls Try.prog 40 #[.slice p xs.length cap] w fun e w' => ∃ v, e = .returned v ∧ w'.ownsRow w.heap.size 3 1 v xs.length (iV xs) ∧ Below w.heap.size w w' := by
  cases p with
  | none =>
    obtain rfl := hp rfl
    have hx : xs = [] := by
      rcases hv with h | ⟨_, _, h, _⟩
      · exact len_zero (by rw [← iV_len xs, h]; simp)
      · cases h
    subst hx
    refine (clone_none w).mono ?_
    rintro e w' ⟨rfl, rfl⟩
    exact ⟨_, rfl, World.ownsRow_nil _ _ _ _, Below.refl _ _⟩
  | some ad => exact clone_some ad cap xs w hv hl
theorem clone_c (v : Value) (p : Option Addr) (cap : Nat) (xs : List Int) (w : World) (he : v = .slice p xs.length cap) (hv : Vw w p (iV xs)) (hp : p = none ∧ cap = 0 ∨ ∃ b off, p = some ⟨b, off, none⟩) (hl : xs.length ≤ 900000) :
    Calls Try.prog 40 #[v] w fun e w' => ∃ v, e = .returned v ∧ w'.ownsRow w.heap.size 3 1 v xs.length (iV xs) ∧ Below w.heap.size w w' := by
  subst he
  exact clone_w p cap xs w hv (fun h => hp.elim (fun e => e.2) (fun ⟨b, off, e⟩ => by rw [e] at h; cases h)) hl
end Go.Proofs.Ytgegahnjhaldeaa
