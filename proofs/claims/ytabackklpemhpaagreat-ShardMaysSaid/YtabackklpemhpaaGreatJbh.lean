/-
  Contracts of slices.Index, Contains, IndexFunc, ContainsFunc, Clone at []int. Contract of the law's Ints: are two lists of numbers the same? ShardMays of layer 14, walked.
-/
import Derived.Test.YtabackklpemhpaaGreatJay
import Derived.Shelf.Abstract
import Derived.Test.YtabackklpemhpaaGreatJbg
set_option maxRecDepth 20000
namespace Go.Proofs.YtabackklpemhpaaGreat
open Go.ChangeShapes Go.WideShapes Go.ChangeAt Go.RowKit

namespace Lk
/-- Where the first one lies of which p is so, if it is looked for from place k on; -1: nowhere. -/
def idxF (p : Int → Bool) : Nat → List Int → Int
  | _, [] => -1
  | k, y :: ys => if p y then (k : Int) else idxF p (k + 1) ys
def idx (p : Int → Bool) (xs : List Int) : Int := idxF p 0 xs
theorem idxF_at (p : Int → Bool) : ∀ (xs : List Int) (o k : Nat), k < xs.length → (∀ i, i < k → p (xs.getD i 0) = false) → p (xs.getD k 0) = true → idxF p o xs = ((o + k : Nat) : Int)
  | [], _, _, h, _, _ => by simp at h
  | y :: ys, o, 0, _, _, h => by
    have h' : p y = true := h
    simp [idxF, h']
  | y :: ys, o, k + 1, h, hn, hp => by
    have h0 : p y = false := hn 0 (by omega)
    have := idxF_at p ys (o + 1) k (by simpa using h) (fun i hi => hn (i + 1) (by omega)) hp
    simp only [idxF, h0, Bool.false_eq_true, if_false, this]
    omega
theorem idxF_no (p : Int → Bool) : ∀ (xs : List Int) (o : Nat), (∀ i, i < xs.length → p (xs.getD i 0) = false) → idxF p o xs = -1
  | [], _, _ => rfl
  | y :: ys, o, h => by
    have h0 : p y = false := h 0 (by simp)
    simp only [idxF, h0, Bool.false_eq_true, if_false]
    exact idxF_no p ys (o + 1) fun i hi => h (i + 1) (by simpa using hi)
theorem idx_at {p : Int → Bool} {xs : List Int} {k : Nat} (h : k < xs.length) (hn : ∀ i, i < k → p (xs.getD i 0) = false) (hp : p (xs.getD k 0) = true) : idx p xs = (k : Int) := by
  have := idxF_at p xs 0 k h hn hp
  simpa [idx] using this
theorem idx_no {p : Int → Bool} {xs : List Int} (h : ∀ i, i < xs.length → p (xs.getD i 0) = false) : idx p xs = -1 := idxF_no p xs 0 h
theorem idxF_any (p : Int → Bool) : ∀ (xs : List Int) (o : Nat), decide (idxF p o xs ≥ 0) = xs.any p
  | [], _ => rfl
  | y :: ys, o => by
    have ih := idxF_any p ys (o + 1)
    by_cases h : p y = true
    · have : (0 : Int) ≤ (o : Int) := by omega
      simp [idxF, h]
    · simp only [idxF, h, List.any_cons, Bool.false_or]
      exact ih
theorem idx_any (p : Int → Bool) (xs : List Int) : decide (idx p xs ≥ 0) = xs.any p := idxF_any p xs 0
theorem idxF_range (p : Int → Bool) : ∀ (xs : List Int) (o : Nat), idxF p o xs = -1 ∨ ((o : Int) ≤ idxF p o xs ∧ idxF p o xs < o + xs.length)
  | [], _ => .inl rfl
  | y :: ys, o => by
    have ih := idxF_range p ys (o + 1)
    by_cases h : p y = true
    · simp only [idxF, h, if_true, List.length_cons]
      omega
    · simp only [idxF, h, if_false, List.length_cons, Bool.false_eq_true]
      omega
theorem idx_range (p : Int → Bool) (xs : List Int) : idx p xs = -1 ∨ (0 ≤ idx p xs ∧ idx p xs < xs.length) := by
  have := idxF_range p xs 0
  simpa [idx] using this
end Lk

theorem iV_len (xs : List Int) : (iV xs).length = xs.length := List.length_map _
theorem Vw.cells {w : World} {p : Option Addr} {xs : List Int} (h : Vw w p (iV xs)) (hp : 0 < xs.length) : ∃ b off, p = some ⟨b, off, none⟩ ∧ b < w.heap.size ∧ ∀ j, j < xs.length → w.cell? ⟨b, off + j, none⟩ = some (.int .i64 (xs.getD j 0)) := by
  rcases h with h | ⟨b, off, rfl, hb, hc⟩
  · have : xs.length = 0 := by rw [← iV_len xs, h]; rfl
    omega
  · exact ⟨b, off, rfl, hb, fun j hj => hc j _ (iV_at xs j hj)⟩
theorem len_zero {xs : List Int} (h : ¬ 0 < xs.length) : xs = [] := List.length_eq_zero_iff.1 (by omega)

set_option maxHeartbeats 1000000 in
theorem index_c (p : Option Addr) (cap : Nat) (xs : List Int) (x : Int) (w : World) (hv : Vw w p (iV xs)) (hl : xs.length ≤ 1000000) :
    Calls Tryz.prog 160 #[.slice p xs.length cap, .int .i64 x] w fun e w' => e = .returned (.int .i64 (Lk.idx (fun y => x == y) xs)) ∧ w = w' := by
  by_cases hp : 0 < xs.length
  · obtain ⟨b, off, rfl, -, hc⟩ := hv.cells hp
    have HC := Lib.hid hc
    clear hc hv
    go_enter Tryz.func160, Tryz.ntmps160
    go_wp2_with fail
    go_loop [5, 8] (fun _ iv => ∃ k : Nat, k ≤ xs.length ∧ iv = .int .i64 k ∧ ∀ i, i < k → (x == xs.getD i 0) = false) (fun _ iv => xs.length - (intOf iv).toNat)
    case atStart => exact ⟨0, Nat.zero_le _, rfl, fun i h => by omega⟩
    case round =>
      obtain ⟨k, hk, rfl, hn⟩ := hrel
      have HN := Lib.hid hn
      clear hn
      by_cases hlt : k < xs.length
      · have c := HC.out k hlt
        have g : (k : Int) < xs.length := by omega
        cases he : (x == xs.getD k 0)
        · have HE := Lib.hid he
          generalize xs.getD k 0 = y at c he
          go_wp2_with fail
          go_round
          case rel => exact ⟨k + 1, by omega, by go_num, fun i hi => if e : i = k then e ▸ HE.out else HN.out i (by omega)⟩
          case measure => simp [intOf]; omega
        · have HE := Lib.hid (Lk.idx_at hlt HN.out he)
          generalize xs.getD k 0 = y at c he
          go_wp2_with fail
          go_ret
          exact ⟨by rw [HE.out]; rfl, rfl⟩
      · obtain rfl : k = xs.length := by omega
        have HE := Lib.hid (Lk.idx_no HN.out)
        go_wp2_with fail
        go_ret
        exact ⟨by rw [HE.out]; rfl, rfl⟩
  · obtain rfl := len_zero hp
    go_enter Tryz.func160, Tryz.ntmps160
    go_wp2_with fail
    go_loop [5, 8] (fun _ iv => iv = .int .i64 0) (fun _ _ => 0)
    case atStart => rfl
    case round =>
      subst hrel
      go_wp2_with fail
      go_ret
      exact ⟨rfl, rfl⟩
theorem contains_c (p : Option Addr) (cap : Nat) (xs : List Int) (x : Int) (w : World) (hv : Vw w p (iV xs)) (hl : xs.length ≤ 1000000) :
    Calls Tryz.prog 116 #[.slice p xs.length cap, .int .i64 x] w fun e w' => e = .returned (.bool (xs.any fun y => x == y)) ∧ w = w' := by
  have HV := Lib.hid hv
  clear hv
  go_enter Tryz.func116, Tryz.ntmps116
  go_wp2_with fail
  refine (index_c _ _ _ _ _ HV.out hl).mono ?_
  rintro e w' ⟨rfl, rfl⟩
  have HA := Lib.hid (Lk.idx_any (fun y => x == y) xs)
  generalize Lk.idx (fun y => x == y) xs = d at *
  go_wp2_with fail
  go_ret
  exact ⟨by rw [← HA.out]; rfl, rfl⟩

def InI (i : Int) : Prop := -9223372036854775808 ≤ i ∧ i ≤ 9223372036854775807
/-- A function value that tells p of numbers, in any world that S lets. -/
structure Tells (base : Nat) (S : World → Prop) (F : FuncId) (cap : Array Value) (p : Int → Bool) : Prop where
  run : ∀ x W, InI x → S W → base ≤ W.heap.size → Calls Tryz.prog F (#[.int .i64 x] ++ cap) W fun e W' => e = .returned (.bool (p x)) ∧ Below W.heap.size W W'
  low : ∀ W W', S W → Below base W W' → S W'
  enters : Go.Proofs.Enters Tryz.prog F
set_option maxHeartbeats 1000000 in
theorem indexF_c (base : Nat) (S : World → Prop) (F : FuncId) (cs : Array Value) (f : Int → Bool) (hT : Tells base S F cs f) (p : Option Addr) (cap : Nat) (xs : List Int) (w : World) (hS : S w) (hb : base ≤ w.heap.size) (hv : Vw w p (iV xs)) (hi : ∀ j, j < xs.length → InI (xs.getD j 0)) (hl : xs.length ≤ 1000000) :
    Calls Tryz.prog 112 #[.slice p xs.length cap, .func (.func F) #[] cs] w fun e w' => e = .returned (.int .i64 (Lk.idx f xs)) ∧ Below w.heap.size w w' := by
  have HS := Lib.hid hS
  have HT := Lib.hid hT
  clear hS hT
  by_cases hp : 0 < xs.length
  · obtain ⟨b, off, rfl, hbl, hc⟩ := hv.cells hp
    have HC := Lib.hid hc
    have HL := Lib.hid hbl
    clear hc hv hbl
    go_enter Tryz.func112, Tryz.ntmps112
    go_wp2_with fail
    go_loopw [5, 8] (fun _ iv wr => ∃ k : Nat, k ≤ xs.length ∧ iv = .int .i64 k ∧ (∀ i, i < k → f (xs.getD i 0) = false) ∧ Below w.heap.size w wr) (fun _ iv _ => xs.length - (intOf iv).toNat)
    case atStart => exact ⟨0, Nat.zero_le _, rfl, fun i h => by omega, Below.refl _ _⟩
    case round =>
      obtain ⟨k, hk, rfl, hn, hbel⟩ := hrel
      have HN := Lib.hid hn
      have HB := Lib.hid hbel
      clear hn hbel
      by_cases hlt : k < xs.length
      · have c := (HB.out.cell (p := ⟨b, off + k, none⟩) HL.out).trans (HC.out k hlt)
        have g : (k : Int) < xs.length := by omega
        have HSr := Lib.hid (HT.out.low w wr HS.out (HB.out.mono hb))
        cases he : f (xs.getD k 0)
        · have HE := Lib.hid he
          have HR := Lib.hid (HT.out.run (xs.getD k 0) wr (hi k hlt) HSr.out (Nat.le_trans hb HB.out.size))
          rw [he] at HR
          generalize xs.getD k 0 = y at c HR
          clear he
          go_wp2_with fail
          rw [HT.out.enters]
          refine HR.out.mono ?_
          rintro e w2 ⟨rfl, hb2⟩
          have HB2 := Lib.hid (HB.out.trans (hb2.mono HB.out.size))
          clear hb2
          go_wp2_with fail
          go_roundw
          case rel => exact ⟨k + 1, by omega, by go_num, fun i hi => if e : i = k then e ▸ HE.out else HN.out i (by omega), HB2.out⟩
          case measure => simp [intOf]; omega
        · have HE := Lib.hid (Lk.idx_at hlt HN.out he)
          have HR := Lib.hid (HT.out.run (xs.getD k 0) wr (hi k hlt) HSr.out (Nat.le_trans hb HB.out.size))
          rw [he] at HR
          generalize xs.getD k 0 = y at c HR
          clear he
          go_wp2_with fail
          rw [HT.out.enters]
          refine HR.out.mono ?_
          rintro e w2 ⟨rfl, hb2⟩
          have HB2 := Lib.hid (HB.out.trans (hb2.mono HB.out.size))
          clear hb2
          go_wp2_with fail
          go_ret
          exact ⟨by rw [HE.out]; rfl, HB2.out⟩
      · obtain rfl : k = xs.length := by omega
        have HE := Lib.hid (Lk.idx_no HN.out)
        go_wp2_with fail
        go_ret
        exact ⟨by rw [HE.out]; rfl, HB.out⟩
  · obtain rfl := len_zero hp
    go_enter Tryz.func112, Tryz.ntmps112
    go_wp2_with fail
    go_loop [5, 8] (fun _ iv => iv = .int .i64 0) (fun _ _ => 0)
    case atStart => rfl
    case round =>
      subst hrel
      go_wp2_with fail
      go_ret
      exact ⟨rfl, Below.refl _ _⟩
theorem containsF_c (base : Nat) (S : World → Prop) (F : FuncId) (cs : Array Value) (f : Int → Bool) (hT : Tells base S F cs f) (p : Option Addr) (cap : Nat) (xs : List Int) (w : World) (hS : S w) (hb : base ≤ w.heap.size) (hv : Vw w p (iV xs)) (hi : ∀ j, j < xs.length → InI (xs.getD j 0)) (hl : xs.length ≤ 1000000) :
    Calls Tryz.prog 113 #[.slice p xs.length cap, .func (.func F) #[] cs] w fun e w' => e = .returned (.bool (xs.any f)) ∧ Below w.heap.size w w' := by
  have HC := Lib.hid (indexF_c base S F cs f hT p cap xs w hS hb hv hi hl)
  clear hT hS hb hv
  go_enter Tryz.func113, Tryz.ntmps113
  go_wp2_with fail
  refine HC.out.mono ?_
  rintro e w' ⟨rfl, hb2⟩
  have HB := Lib.hid hb2
  have HA := Lib.hid (Lk.idx_any f xs)
  generalize Lk.idx f xs = d at *
  clear hb2
  go_wp2_with fail
  go_ret
  exact ⟨by rw [← HA.out]; rfl, HB.out⟩
theorem info_intL : (Tryz.prog.info? 3).map (fun i => (i.zero, i.size, i.bytes)) = some (some (.int .i64 0), 1, 8) := by kernel_rfl
theorem sl_not_nil (a : Addr) (n c : Nat) (w : World) : (binOp .eql 40 (.slice (some a) n c) (.slice none 0 0)).run Tryz.prog w = .ok (.bool false) w := by kernel_rfl
theorem sl_is_nil (w : World) : (binOp .eql 40 (.slice none 0 0) (.slice none 0 0)).run Tryz.prog w = .ok (.bool true) w := by kernel_rfl
set_option maxHeartbeats 1000000 in
theorem clone_none (w : World) : Calls Tryz.prog 58 #[.slice none 0 0] w fun e w' => e = .returned (.slice none 0 0) ∧ w = w' := by
  have hq := sl_is_nil
  go_enter Tryz.func58, Tryz.ntmps58
  go_wp2_with fail
  go_ret
  exact ⟨rfl, rfl⟩
set_option maxHeartbeats 1000000 in
theorem clone_some (ad : Addr) (cap : Nat) (xs : List Int) (w : World) (hv : Vw w (some ad) (iV xs)) (hl : xs.length ≤ 900000) :
    Calls Tryz.prog 58 #[.slice (some ad) xs.length cap] w fun e w' => ∃ v, e = .returned v ∧ w'.ownsRow w.heap.size 3 1 v xs.length (iV xs) ∧ Below w.heap.size w w' := by
  have HV := Lib.hid (hv.low ((Below.refl w.heap.size w).alloc (Nat.le_refl _) (.cells #[] 3)))
  have HO := Lib.hid (show (w.alloc (.cells #[] 3)).ownsRow w.heap.size 3 1 (.slice (some ⟨w.heap.size, 0, none⟩) 0 0) 0 [] from
    ⟨rfl, .inr ⟨w.heap.size, 0, #[], rfl, Nat.le_refl _, CsAt.new w 3 #[], Nat.le_refl _, Nat.zero_le _, rfl, rfl⟩⟩)
  have HB := Lib.hid ((Below.refl w.heap.size w).alloc (Nat.le_refl _) (.cells #[] 3))
  have hq := sl_not_nil ad xs.length cap
  clear hv
  go_enter Tryz.func58, Tryz.ntmps58
  go_wp2_with (at_builtin; refine wpList_cat rfl _ _ 40 rfl w.heap.size 3 _ 1 8 Tryz.underlying40 info_intL rfl (by omega) (by omega) _ 0 [] rfl HO.out _ xs.length cap (iV xs) rfl HV.out (by simp) (fun u hu => by obtain ⟨x, -, rfl⟩ := List.mem_map.1 hu; rfl) (by omega) HB.out.size ?_)
  intro v' w' hown hb
  have HW := Lib.hid (show w'.ownsRow w.heap.size 3 1 v' xs.length (iV xs) by simpa using hown)
  have HB2 := Lib.hid (HB.out.trans hb)
  clear hown hb
  go_wp2_with fail
  go_ret
  exact ⟨_, rfl, HW.out, HB2.out⟩
/-- A slice that isn't nil, or the nil one. -/
theorem clone_w (p : Option Addr) (cap : Nat) (xs : List Int) (w : World) (hv : Vw w p (iV xs)) (hp : p = none → cap = 0) (hl : xs.length ≤ 900000) :
    Calls Tryz.prog 58 #[.slice p xs.length cap] w fun e w' => ∃ v, e = .returned v ∧ w'.ownsRow w.heap.size 3 1 v xs.length (iV xs) ∧ Below w.heap.size w w' := by
  cases p with
  | none =>
    obtain rfl := hp rfl
    have hx : xs = [] := by
      rcases hv with h | ⟨_, _, h, _⟩
      · exact len_zero (by rw [← iV_len xs, h]; simp)
      · cases h
    subst hx
    refine (clone_none w).mono ?_
    rintro e w' ⟨rfl, rfl⟩
    exact ⟨_, rfl, World.ownsRow_nil _ _ _ _, Below.refl _ _⟩
  | some ad => exact clone_some ad cap xs w hv hl
theorem sclone_c (v : Value) (p : Option Addr) (cap : Nat) (xs : List Int) (w : World) (he : v = .slice p xs.length cap) (hv : Vw w p (iV xs)) (hp : p = none ∧ cap = 0 ∨ ∃ b off, p = some ⟨b, off, none⟩) (hl : xs.length ≤ 900000) :
    Calls Tryz.prog 58 #[v] w fun e w' => ∃ v, e = .returned v ∧ w'.ownsRow w.heap.size 3 1 v xs.length (iV xs) ∧ Below w.heap.size w w' := by
  subst he
  exact clone_w p cap xs w hv (fun h => hp.elim (fun e => e.2) (fun ⟨b, off, e⟩ => by rw [e] at h; cases h)) hl
end Go.Proofs.YtabackklpemhpaaGreat
set_option maxRecDepth 20000
namespace Go.Proofs.YtabackklpemhpaaGreat
open Go.ChangeShapes Go.WideShapes Go.ChangeAt Go.RowKit

theorem eq_of_at {xs ys : List Int} (h : xs.length = ys.length) (he : ∀ i, i < xs.length → (xs.getD i 0 != ys.getD i 0) = false) : xs = ys := by
  apply List.ext_getElem h
  intro i h1 h2
  have := he i h1
  rw [List.getD, List.getD, List.getElem?_eq_getElem h1, List.getElem?_eq_getElem h2] at this
  simpa using this
set_option maxHeartbeats 2000000 in
theorem ints_c (p q : Option Addr) (cp cq : Nat) (xs ys : List Int) (w : World) (hp : Vw w p (iV xs)) (hq : Vw w q (iV ys)) (hl : xs.length ≤ 1000000) :
    Calls Tryz.prog 23 #[.slice p xs.length cp, .slice q ys.length cq] w fun e w' => e = .returned (.bool (decide (xs = ys))) ∧ Below w.heap.size w w' := by
  by_cases hlen : xs.length = ys.length
  · by_cases h0 : 0 < xs.length
    · obtain ⟨bp, op, rfl, hbp, hcp⟩ := hp.cells h0
      obtain ⟨bq, oq, rfl, hbq, hcq⟩ := hq.cells (by omega)
      have HP := Lib.hid hcp
      have HQ := Lib.hid hcq
      rw [← hlen]
      clear hp hq hcp hcq
      go_enter Tryz.func23, Tryz.ntmps23
      go_wp2_with fail
      go_loopw [5] (fun iv wr => ∃ k : Nat, k ≤ xs.length ∧ iv = .int .i64 k ∧ (∀ i, i < k → (xs.getD i 0 != ys.getD i 0) = false) ∧ Below w.heap.size w wr) (fun iv _ => xs.length - (intOf iv).toNat)
      case atStart => exact ⟨0, Nat.zero_le _, rfl, fun i h => by omega, Below.refl _ _⟩
      case round =>
        obtain ⟨k, hk, rfl, hn, hb⟩ := hrel
        have HN := Lib.hid hn
        have HB := Lib.hid hb
        by_cases hlt : k < xs.length
        · have c1 := (hb.cell (p := ⟨bp, op + k, none⟩) hbp).trans (HP.out k hlt)
          have c2 := (hb.cell (p := ⟨bq, oq + k, none⟩) hbq).trans (HQ.out k (by omega))
          have g : (k : Int) < xs.length := by omega
          clear hn hb
          cases he : (xs.getD k 0 != ys.getD k 0)
          · have HE := Lib.hid he
            generalize xs.getD k 0 = x at c1 he
            generalize ys.getD k 0 = y at c2 he
            go_wp2_with fail
            go_quiet (fail)
            have HB2 := Lib.hid (below_dnS HB.out nq)
            go_wp2_with fail
            go_roundw
            case rel => exact ⟨k + 1, by omega, by go_num, fun i hi => if e : i = k then e ▸ HE.out else HN.out i (by omega), HB2.out⟩
            case measure => simp [intOf]; omega
          · have HE := Lib.hid (show decide (xs = ys) = false from decide_eq_false fun e => by rw [e] at he; simp at he)
            generalize xs.getD k 0 = x at c1 he
            generalize ys.getD k 0 = y at c2 he
            go_wp2_with fail
            go_quiet (fail)
            have HB2 := Lib.hid (below_dnS HB.out nq)
            go_wp2_with fail
            go_ret
            exact ⟨by rw [HE.out]; rfl, HB2.out⟩
        · obtain rfl : k = xs.length := by omega
          have HE := Lib.hid (show decide (xs = ys) = true from decide_eq_true (eq_of_at hlen HN.out))
          clear hn hb
          go_wp2_with fail
          go_ret
          exact ⟨by rw [HE.out]; rfl, HB.out⟩
    · obtain rfl := len_zero h0
      obtain rfl := len_zero (xs := ys) (by omega)
      go_enter Tryz.func23, Tryz.ntmps23
      go_wp2_with fail
      go_loop [5] (fun iv => iv = .int .i64 0) (fun _ => 0)
      case atStart => rfl
      case round =>
        subst hrel
        go_wp2_with fail
        go_ret
        exact ⟨rfl, Below.refl _ _⟩
  · have HE := Lib.hid (show decide (xs = ys) = false from decide_eq_false fun e => hlen (by rw [e]))
    have g : ((xs.length : Int) != (ys.length : Int)) = true := by
      have : (xs.length : Int) ≠ ys.length := by omega
      simpa using this
    go_enter Tryz.func23, Tryz.ntmps23
    go_wp2_with fail
    go_ret
    exact ⟨by rw [HE.out]; rfl, Below.refl _ _⟩
end Go.Proofs.YtabackklpemhpaaGreat
set_option maxRecDepth 20000
namespace Go.Proofs.YtabackklpemhpaaGreat
open Go.ChangeShapes Go.WideShapes Go.ChangeAt Go.RowKit Wd

/-- The law's arguments in their boxes. -/
structure MW (w W : World) (c : Cf) (a : Ak) (cs : Array Value) : Prop where
  c : CsAt W w.heap.size CFT (cfC c)
  a : AkAt W (w.heap.size + 1) a
  b : CsAt W (w.heap.size + 2) ANT cs
  bel : Below w.heap.size w W
theorem MW.low {w W W' : World} {c : Cf} {a : Ak} {cs : Array Value} (h : MW w W c a cs) (hb : Below W.heap.size W W') : MW w W' c a cs := ⟨h.c.low hb, h.a.low hb, h.b.low hb, h.bel.trans (hb.mono h.bel.size)⟩
theorem mw_new (w : World) (c : Cf) (a : Ak) (cs : Array Value) : MW w (((w.alloc (.cells (cfC c) CFT)).alloc (.cells (akC a) AKT)).alloc (.cells cs ANT)) c a cs := by
  have h1 := box_below w (cfC c) CFT
  have h2 := box_below (w.alloc (.cells (cfC c) CFT)) (akC a) AKT
  have h3 := box_below ((w.alloc (.cells (cfC c) CFT)).alloc (.cells (akC a) AKT)) cs ANT
  have h12 := h1.trans (h2.mono h1.size)
  exact ⟨((CsAt.new w CFT _).low h2).low h3, by simpa using (akAt_new (w.alloc (.cells (cfC c) CFT)) a).low h3, by simpa using CsAt.new ((w.alloc (.cells (cfC c) CFT)).alloc (.cells (akC a) AKT)) ANT cs, h12.trans (h3.mono h12.size)⟩
theorem MW.two {w W W' : World} {c : Cf} {a : Ak} {cs : Array Value} (h : MW w W c a cs) {sb mb : Nat} (ht : Two sb mb W W') (h1 : w.heap.size + 3 ≤ sb) (h2 : w.heap.size + 3 ≤ mb) : MW w W' c a cs :=
  ⟨(ht.block _ h.c.lt (by omega) (by omega)).trans h.c, ⟨(ht.block _ h.a.cs.lt (by omega) (by omega)).trans h.a.cs⟩, (ht.block _ h.b.lt (by omega) (by omega)).trans h.b, h.bel.trans (ht.below (by omega) (by omega) h.bel.size)⟩
theorem need_len {c : Cf} {a : Ak} {ns : List Int} (h : Sh.needS c a = ns) : ns.length ≤ 1000000 := by
  rw [← h]
  unfold Sh.needS
  split
  · have h1 := Srt.set_len (stL (Sh.pcs a) c.stripes)
    have h2 : (Sh.pcs a).length ≤ 4 := Sp.pieces_len a.addr a.next a.cut a.size
    rw [stL_len] at h1
    omega
  · simp
set_option maxHeartbeats 16000000 in
set_option maxRecDepth 100000 in
theorem mays_walk (c : Cf) (hc : c.In) (a : Ak) (ha : a.In) (cs : Array Value) (g : Bool) (hcs : cs.size = 42) (hg : cs[1]? = some (.bool g)) (w : World) :
    Calls Tryz.prog 3 #[.agg (cfC c), .agg (akC a), .agg cs] w fun e w' => e = .returned (.bool true) ∧ Below w.heap.size w w' := by
  have HM := Lib.hid (mw_new w c a cs)
  have HIB := Lib.hid (show (Tryz.prog.info? ANT).map (·.size) = some cs.size by rw [hcs]; exact info_an)
  have HG := Lib.hid hg
  have HCI := Lib.hid hc
  have HAI := Lib.hid ha
  have hst : c.stripes ≤ 9223372036854775807 := hc.stripes.2
  clear hcs hg
  go_enter Tryz.func3, Tryz.ntmps3
  go_upto_region 1 with fail
  generalize ((w.alloc (.cells (cfC c) CFT)).alloc (.cells (akC a) AKT)).alloc (.cells cs ANT) = w1 at *
  go_wp2_with (refine wpList_load_row rfl AKT _ rfl (w.heap.size + 1) rfl AKT (akC a) (0, 0) _ HM.out.a.cs Tryz.underlying32 rfl info_ak ?_)
  refine (sdo_nil a 0 w1).mono ?_
  rintro e w2 ⟨rfl, hb2⟩
  have hbn := box_below w2 (anC 0 false) ANT
  have HM2 := Lib.hid ((HM.out.low hb2).low hbn)
  clear hb2 hbn HM
  go_upto_region 3 with (refine wpList_storeNew rfl ANT _ _ rfl (anC 0 false) (anC 0 false) ANT rfl rfl info_an rfl (anC_one _ _) ?_)
  generalize w2.alloc (.cells (anC 0 false) ANT) = w3 at *
  go_wp2_with (refine wpList_load_rowW rfl AKT _ rfl (w.heap.size + 1) rfl AKT (akC a) (0, 0) _ HM2.out.a.cs Tryz.underlying32 rfl info_ak ?_)
  refine (smay_nil a w3).mono ?_
  rintro e w4 ⟨rfl, hb4⟩
  have HM4 := Lib.hid (HM2.out.low hb4)
  clear hb4 HM2
  go_wp2_with (refine wpList_load_rowW rfl AKT _ rfl (w.heap.size + 1) rfl AKT (akC a) (0, 0) _ HM4.out.a.cs Tryz.underlying32 rfl info_ak ?_)
  refine (sneeds_nil a w4).mono ?_
  rintro e w5 ⟨rfl, hb5⟩
  have HM5 := Lib.hid (HM4.out.low hb5)
  clear hb5 HM4
  go_wp2_with fail
  refine (sram_nil w5).mono ?_
  rintro e w6 ⟨rfl, rfl⟩
  go_wp2_with fail
  refine (sclone_nil w5).mono ?_
  rintro e w6 ⟨rfl, rfl⟩
  go_wp2_with fail
  refine (sconf_nil w5).mono ?_
  rintro e w6 ⟨rfl, hb6⟩
  have HM6 := Lib.hid (HM5.out.low hb6)
  clear hb6 HM5
  cases hr : rightS c
  · have HRR := Lib.hid hr
    obtain ⟨wv, hwv⟩ : ∃ wv, Sh.wrB a.kind g = wv := ⟨_, rfl⟩
    have HWV := Lib.hid hwv
    clear hwv
    go_wp2_with (first | (refine wpList_load_row rfl CFT _ rfl w.heap.size rfl CFT (cfC c) (0, 0) _ HM6.out.c Tryz.underlying23 rfl info_cf ?_) | (refine wpList_cmpW rfl .neq CFT _ _ _ rfl (cfC ⟨0, 0, 0, 0⟩) (cfC ⟨0, 0, 0, 0⟩) rfl rfl guard_cf (.bool false) (neq_cf _ _) ?_))
    refine (snew_no c hr w6).mono ?_
    rintro e w7 ⟨rfl, hb7⟩
    have HM7 := Lib.hid (HM6.out.low hb7)
    clear hb7 HM6 hr
    go_upto_region 6 with fail
    go_cut [75] (fun s wx => s = .bool false ∧ MW w wx c a cs)
    case first =>
      refine wp_region_steady (fun W => MW w W c a cs) (by kernel_rfl) (by kernel_rfl) (HM7.out.low (Below.refl _ _).drew) ?_
      refine steady_val (.agg (cfC c)) ?_ (by kernel_rfl) (fun W hS => exec_load_row CFT _ rfl w.heap.size rfl CFT _ _ hS.c Tryz.underlying23 rfl info_cf) ?_ ?_
      rotate_left 1
      · go_simp
        exact rfl
      refine steady_enter (.bool false) 13 #[.agg (cfC c)] ?_ (by kernel_rfl) (fun W hS => ?_) (fun W hS => (sright_c c W).mono fun e w' hh => ⟨by rw [hh.1, HRR.out], hS.low (hh.2)⟩) ?_ ?_
      rotate_left 1
      · go_simp
      · go_simp
        exact rfl
      refine steady_val (.agg (cfC c)) ?_ (by kernel_rfl) (fun W hS => exec_load_row CFT _ rfl w.heap.size rfl CFT _ _ hS.c Tryz.underlying23 rfl info_cf) ?_ ?_
      rotate_left 1
      · go_simp
        exact rfl
      refine steady_enter (.bool false) 14 #[.agg (cfC c)] ?_ (by kernel_rfl) (fun W hS => ?_) (fun W hS => (rright_c c W).mono fun e w' hh => ⟨by rw [hh.1, HRR.out], hS.low (hh.2)⟩) ?_ ?_
      rotate_left 1
      · go_simp
      · go_simp
        exact rfl
      refine steady_val (.bool false) ?_ (by kernel_rfl) (fun W hS => by go_simp) ?_ ?_
      rotate_left 1
      · go_simp
        exact rfl
      refine steady_val ?_ ?_ (by kernel_rfl) (fun W hS => ?_) ?_ ?_
      rotate_left 2
      · go_simp
        exact rfl
      · go_simp
        exact rfl
      refine steady_val (.agg (akC a)) ?_ (by kernel_rfl) (fun W hS => exec_load_row AKT _ rfl (w.heap.size + 1) rfl AKT _ _ hS.a.cs Tryz.underlying32 rfl info_ak) ?_ ?_
      rotate_left 1
      · go_simp
        exact rfl
      refine steady_val (.agg cs) ?_ (by kernel_rfl) (fun W hS => exec_load_row ANT _ rfl (w.heap.size + 2) rfl ANT _ _ hS.b Tryz.underlying35 rfl HIB.out) ?_ ?_
      rotate_left 1
      · go_simp
        exact rfl
      refine steady_enter (.bool wv) 15 #[.agg (akC a), .agg cs] ?_ (by kernel_rfl) (fun W hS => ?_) (fun W hS => (swrites_c a cs g HG.out W).mono fun e w' hh => ⟨by rw [hh.1, HWV.out], hS.low (hh.2)⟩) ?_ ?_
      rotate_left 1
      · go_simp
      · go_simp
        exact rfl
      refine steady_val (.agg (akC a)) ?_ (by kernel_rfl) (fun W hS => exec_load_row AKT _ rfl (w.heap.size + 1) rfl AKT _ _ hS.a.cs Tryz.underlying32 rfl info_ak) ?_ ?_
      rotate_left 1
      · go_simp
        exact rfl
      refine steady_val (.agg cs) ?_ (by kernel_rfl) (fun W hS => exec_load_row ANT _ rfl (w.heap.size + 2) rfl ANT _ _ hS.b Tryz.underlying35 rfl HIB.out) ?_ ?_
      rotate_left 1
      · go_simp
        exact rfl
      refine steady_enter (.bool wv) 16 #[.agg (akC a), .agg cs] ?_ (by kernel_rfl) (fun W hS => ?_) (fun W hS => (rwrites14_c a cs g HG.out W).mono fun e w' hh => ⟨by rw [hh.1, HWV.out], hS.low (hh.2)⟩) ?_ ?_
      rotate_left 1
      · go_simp
      · go_simp
        exact rfl
      refine steady_val (.bool false) ?_ (by kernel_rfl) (fun W hS => by go_simp) ?_ ?_
      rotate_left 1
      · go_simp
        exact rfl
      refine steady_val (.bool false) ?_ (by kernel_rfl) (fun W hS => by go_simp) ?_ ?_
      rotate_left 1
      · go_simp
        exact rfl
      refine steady_val ?_ ?_ (by kernel_rfl) (fun W hS => ?_) ?_ ?_
      rotate_left 2
      · go_simp
        exact rfl
      · go_simp
        exact rfl
      refine steady_val (.agg (akC a)) ?_ (by kernel_rfl) (fun W hS => exec_load_row AKT _ rfl (w.heap.size + 1) rfl AKT _ _ hS.a.cs Tryz.underlying32 rfl info_ak) ?_ ?_
      rotate_left 1
      · go_simp
        exact rfl
      refine steady_enter (.agg (axV a.addr a.next a.cut a.size)) 17 #[.agg (akC a)] ?_ (by kernel_rfl) (fun W hS => ?_) (fun W hS => (saccess_c a W).mono fun e w' hh => ⟨hh.1, hS.low (hh.2)⟩) ?_ ?_
      rotate_left 1
      · go_simp
      · go_simp
        exact rfl
      refine steady_val (.agg (akC a)) ?_ (by kernel_rfl) (fun W hS => exec_load_row AKT _ rfl (w.heap.size + 1) rfl AKT _ _ hS.a.cs Tryz.underlying32 rfl info_ak) ?_ ?_
      rotate_left 1
      · go_simp
        exact rfl
      refine steady_enter (.agg (axV a.addr a.next a.cut a.size)) 18 #[.agg (akC a)] ?_ (by kernel_rfl) (fun W hS => ?_) (fun W hS => (raccess_c a W).mono fun e w' hh => ⟨hh.1, hS.low (hh.2)⟩) ?_ ?_
      rotate_left 1
      · go_simp
      · go_simp
        exact rfl
      refine steady_val (.bool false) ?_ (by kernel_rfl) (fun W hS => exec_cmp .neq 52 _ _ _ rfl (axV a.addr a.next a.cut a.size) (axV a.addr a.next a.cut a.size) rfl rfl guard_ac _ (neq_ac W a.addr a.next a.cut a.size)) ?_ ?_
      rotate_left 1
      · go_simp
        exact rfl
      refine steady_val ?_ ?_ (by kernel_rfl) (fun W hS => ?_) ?_ ?_
      rotate_left 2
      · go_simp
        exact rfl
      · go_simp
        exact rfl
      refine steady_nil ?_
      intro W8 hW
      go_wp2_with fail
      go_meet
      exact ⟨rfl, hW⟩
    case rest =>
      obtain ⟨rfl, hm⟩ := hcut
      have HM8 := Lib.hid hm
      clear hm HM7
      go_wp2_with (refine wpList_load_row rfl CFT _ rfl w.heap.size rfl CFT (cfC c) (0, 0) _ HM8.out.c Tryz.underlying23 rfl info_cf ?_)
      refine (rright_c c wc).mono ?_
      rintro e w9 ⟨rfl, hb9⟩
      have HM9 := Lib.hid (HM8.out.low hb9)
      rw [HRR.out]
      clear hb9 HM8
      go_wp2_with fail
      refine (live14_c w9).mono ?_
      rintro e w10 ⟨rfl, hb10⟩
      have HM10 := Lib.hid (HM9.out.low hb10)
      clear hb10 HM9
      go_wp2_with fail
      go_ret
      exact ⟨rfl, HM10.out.bel⟩
  · have HRR := Lib.hid hr
    obtain ⟨wv, hwv⟩ : ∃ wv, Sh.wrB a.kind g = wv := ⟨_, rfl⟩
    have HWV := Lib.hid hwv
    clear hwv
    go_wp2_with (first | (refine wpList_load_row rfl CFT _ rfl w.heap.size rfl CFT (cfC c) (0, 0) _ HM6.out.c Tryz.underlying23 rfl info_cf ?_) | (refine wpList_cmpW rfl .neq CFT _ _ _ rfl (cfC ⟨0, 0, 0, 0⟩) (cfC ⟨0, 0, 0, 0⟩) rfl rfl guard_cf (.bool false) (neq_cf _ _) ?_))
    refine (snew_c c hr w6).mono ?_
    rintro e w7 ⟨sb, rb, mb, rfl, hs7, hb7, -, -, -⟩
    have HM7 := Lib.hid (HM6.out.low hb7)
    have HS7 := Lib.hid hs7
    have hcf := hs7.conf
    clear hb7 HM6 hs7
    go_upto_region 6 with fail
    go_cut [75] (fun s wx => s = .bool false ∧ MW w wx c a cs ∧ ShAt wx sb rb mb c (Rm.nought c.lines.toNat) Rv.none_)
    case first =>
      refine wp_region_steady (fun W => MW w W c a cs ∧ ShAt W sb rb mb c (Rm.nought c.lines.toNat) Rv.none_) (by kernel_rfl) (by kernel_rfl) ⟨HM7.out.low (Below.refl _ _).drew, HS7.out.drew⟩ ?_
      refine steady_val (.agg (cfC c)) ?_ (by kernel_rfl) (fun W hS => exec_load_row CFT _ rfl w.heap.size rfl CFT _ _ hS.1.c Tryz.underlying23 rfl info_cf) ?_ ?_
      rotate_left 1
      · go_simp
        exact rfl
      refine steady_enter (.bool true) 13 #[.agg (cfC c)] ?_ (by kernel_rfl) (fun W hS => ?_) (fun W hS => (sright_c c W).mono fun e w' hh => ⟨by rw [hh.1, HRR.out], ⟨hS.1.low (hh.2), hS.2.low (hh.2)⟩⟩) ?_ ?_
      rotate_left 1
      · go_simp
      · go_simp
        exact rfl
      refine steady_val (.agg (cfC c)) ?_ (by kernel_rfl) (fun W hS => exec_load_row CFT _ rfl w.heap.size rfl CFT _ _ hS.1.c Tryz.underlying23 rfl info_cf) ?_ ?_
      rotate_left 1
      · go_simp
        exact rfl
      refine steady_enter (.bool true) 14 #[.agg (cfC c)] ?_ (by kernel_rfl) (fun W hS => ?_) (fun W hS => (rright_c c W).mono fun e w' hh => ⟨by rw [hh.1, HRR.out], ⟨hS.1.low (hh.2), hS.2.low (hh.2)⟩⟩) ?_ ?_
      rotate_left 1
      · go_simp
      · go_simp
        exact rfl
      refine steady_val (.bool false) ?_ (by kernel_rfl) (fun W hS => by go_simp) ?_ ?_
      rotate_left 1
      · go_simp
        exact rfl
      refine steady_val ?_ ?_ (by kernel_rfl) (fun W hS => ?_) ?_ ?_
      rotate_left 2
      · go_simp
        exact rfl
      · go_simp
        exact rfl
      refine steady_val (.agg (akC a)) ?_ (by kernel_rfl) (fun W hS => exec_load_row AKT _ rfl (w.heap.size + 1) rfl AKT _ _ hS.1.a.cs Tryz.underlying32 rfl info_ak) ?_ ?_
      rotate_left 1
      · go_simp
        exact rfl
      refine steady_val (.agg cs) ?_ (by kernel_rfl) (fun W hS => exec_load_row ANT _ rfl (w.heap.size + 2) rfl ANT _ _ hS.1.b Tryz.underlying35 rfl HIB.out) ?_ ?_
      rotate_left 1
      · go_simp
        exact rfl
      refine steady_enter (.bool wv) 15 #[.agg (akC a), .agg cs] ?_ (by kernel_rfl) (fun W hS => ?_) (fun W hS => (swrites_c a cs g HG.out W).mono fun e w' hh => ⟨by rw [hh.1, HWV.out], ⟨hS.1.low (hh.2), hS.2.low (hh.2)⟩⟩) ?_ ?_
      rotate_left 1
      · go_simp
      · go_simp
        exact rfl
      refine steady_val (.agg (akC a)) ?_ (by kernel_rfl) (fun W hS => exec_load_row AKT _ rfl (w.heap.size + 1) rfl AKT _ _ hS.1.a.cs Tryz.underlying32 rfl info_ak) ?_ ?_
      rotate_left 1
      · go_simp
        exact rfl
      refine steady_val (.agg cs) ?_ (by kernel_rfl) (fun W hS => exec_load_row ANT _ rfl (w.heap.size + 2) rfl ANT _ _ hS.1.b Tryz.underlying35 rfl HIB.out) ?_ ?_
      rotate_left 1
      · go_simp
        exact rfl
      refine steady_enter (.bool wv) 16 #[.agg (akC a), .agg cs] ?_ (by kernel_rfl) (fun W hS => ?_) (fun W hS => (rwrites14_c a cs g HG.out W).mono fun e w' hh => ⟨by rw [hh.1, HWV.out], ⟨hS.1.low (hh.2), hS.2.low (hh.2)⟩⟩) ?_ ?_
      rotate_left 1
      · go_simp
      · go_simp
        exact rfl
      refine steady_val (.bool false) ?_ (by kernel_rfl) (fun W hS => by go_simp) ?_ ?_
      rotate_left 1
      · go_simp
        exact rfl
      refine steady_val (.bool false) ?_ (by kernel_rfl) (fun W hS => by go_simp) ?_ ?_
      rotate_left 1
      · go_simp
        exact rfl
      refine steady_val ?_ ?_ (by kernel_rfl) (fun W hS => ?_) ?_ ?_
      rotate_left 2
      · go_simp
        exact rfl
      · go_simp
        exact rfl
      refine steady_val (.agg (akC a)) ?_ (by kernel_rfl) (fun W hS => exec_load_row AKT _ rfl (w.heap.size + 1) rfl AKT _ _ hS.1.a.cs Tryz.underlying32 rfl info_ak) ?_ ?_
      rotate_left 1
      · go_simp
        exact rfl
      refine steady_enter (.agg (axV a.addr a.next a.cut a.size)) 17 #[.agg (akC a)] ?_ (by kernel_rfl) (fun W hS => ?_) (fun W hS => (saccess_c a W).mono fun e w' hh => ⟨hh.1, ⟨hS.1.low (hh.2), hS.2.low (hh.2)⟩⟩) ?_ ?_
      rotate_left 1
      · go_simp
      · go_simp
        exact rfl
      refine steady_val (.agg (akC a)) ?_ (by kernel_rfl) (fun W hS => exec_load_row AKT _ rfl (w.heap.size + 1) rfl AKT _ _ hS.1.a.cs Tryz.underlying32 rfl info_ak) ?_ ?_
      rotate_left 1
      · go_simp
        exact rfl
      refine steady_enter (.agg (axV a.addr a.next a.cut a.size)) 18 #[.agg (akC a)] ?_ (by kernel_rfl) (fun W hS => ?_) (fun W hS => (raccess_c a W).mono fun e w' hh => ⟨hh.1, ⟨hS.1.low (hh.2), hS.2.low (hh.2)⟩⟩) ?_ ?_
      rotate_left 1
      · go_simp
      · go_simp
        exact rfl
      refine steady_val (.bool false) ?_ (by kernel_rfl) (fun W hS => exec_cmp .neq 52 _ _ _ rfl (axV a.addr a.next a.cut a.size) (axV a.addr a.next a.cut a.size) rfl rfl guard_ac _ (neq_ac W a.addr a.next a.cut a.size)) ?_ ?_
      rotate_left 1
      · go_simp
        exact rfl
      refine steady_val ?_ ?_ (by kernel_rfl) (fun W hS => ?_) ?_ ?_
      rotate_left 2
      · go_simp
        exact rfl
      · go_simp
        exact rfl
      refine steady_nil ?_
      intro W8 hW
      go_wp2_with fail
      go_meet
      exact ⟨rfl, hW⟩
    case rest =>
      obtain ⟨rfl, hm, hs⟩ := hcut
      have HM8 := Lib.hid hm
      have HS8 := Lib.hid hs
      clear hm hs HM7 HS7
      go_wp2_with (refine wpList_load_row rfl CFT _ rfl w.heap.size rfl CFT (cfC c) (0, 0) _ HM8.out.c Tryz.underlying23 rfl info_cf ?_)
      refine (rright_c c wc).mono ?_
      rintro e w9 ⟨rfl, hb9⟩
      have HM9 := Lib.hid (HM8.out.low hb9)
      have HS9 := Lib.hid (HS8.out.low hb9)
      rw [HRR.out]
      clear hb9 HM8 HS8
      have k2 : w9.cell? ⟨w.heap.size, 2, none⟩ = some (.int .i64 c.lines) := HM9.out.c.cell 2
      by_cases hln : c.lines > 60
      · have gl : decide (c.lines > 60) = true := by simpa using hln
        go_wp2_with fail
        refine (live14_c w9).mono ?_
        rintro e w10 ⟨rfl, hb10⟩
        have HM10 := Lib.hid (HM9.out.low hb10)
        clear hb10 HM9
        go_wp2_with fail
        go_ret
        exact ⟨rfl, HM10.out.bel⟩
      · have gl : decide (c.lines > 60) = false := by simpa using hln
        go_wp2_with (refine wpList_load_row rfl CFT _ rfl w.heap.size rfl CFT (cfC c) (0, 0) _ HM9.out.c Tryz.underlying23 rfl info_cf ?_)
        refine (rnew14_c c hr w9).mono ?_
        rintro e w10 ⟨rg, cap, rfl, -, hrf, hb10⟩
        have hbx := box_below w10 (sxT c rg c.lines.toNat cap Rv.none_) SXT
        have HM10 := Lib.hid ((HM9.out.low hb10).low hbx)
        have HS10 := Lib.hid ((HS9.out.low hb10).low hbx)
        have HX10 := Lib.hid (CsAt.new w10 SXT (sxT c rg c.lines.toNat cap Rv.none_))
        clear hb10 hbx HM9 HS9 hrf k2
        go_upto_region 13 with (refine wpList_storeNew rfl SXT _ _ rfl zeroSx (sxT c rg c.lines.toNat cap Rv.none_) SXT rfl rfl info_sx rfl (sx_one _ _ _ _ _ _) ?_)
        generalize w10.alloc (.cells (sxT c rg c.lines.toNat cap Rv.none_) SXT) = w11 at *
        generalize w10.heap.size = xb at *
        go_wp2_with (first
          | (refine wpList_load_row rfl SXT _ rfl xb rfl SXT (sxT c rg c.lines.toNat cap Rv.none_) (0, 0) _ HX10.out Tryz.underlying65 rfl info_sx ?_)
          | (refine wpList_load_row rfl AKT _ rfl (w.heap.size + 1) rfl AKT (akC a) (0, 0) _ HM10.out.a.cs Tryz.underlying32 rfl info_ak ?_))
        refine (rmay14_c a ha c rg c.lines.toNat cap (by omega) _ _ w11).mono ?_
        rintro e w12 ⟨rfl, hb12⟩
        have HM12 := Lib.hid (HM10.out.low hb12)
        have HS12 := Lib.hid (HS10.out.low hb12)
        clear hb12 HM10 HS10 HX10
        obtain ⟨ns, hns⟩ : ∃ ns, Sh.needS c a = ns := ⟨_, rfl⟩
        have HND := Lib.hid (show ns = if Sh.mayB c.lines.toNat a then Srt.set (stL (Sh.pcs a) c.stripes) else [] from hns.symm)
        have HNS := Lib.hid hns
        have HSM := Lib.hid (fun W (H : ShAt W sb rb mb c (Rm.nought c.lines.toNat) Rv.none_) => smay_c a ha W H)
        have HLN := Lib.hid (show ((c.lines.toNat : Nat) : Int) = c.lines by omega)
        obtain ⟨mv, hmv⟩ : ∃ mv, Sh.mayB c.lines.toNat a = mv := ⟨_, rfl⟩
        rw [hmv] at HSM HND ⊢
        clear hns hmv gl
        go_upto_if 105 with fail
        go_cut [14] (fun s wx => ∃ p cap, s = .slice p ns.length cap ∧ Vw wx p (iV ns) ∧ MW w wx c a cs ∧ ShAt wx sb rb mb c (Rm.nought c.lines.toNat) Rv.none_)
        case first =>
          cases mv
          · have HE := Lib.hid (show ns = [] from HND.out)
            go_wp2_with fail
            go_meet
            exact ⟨none, 0, by rw [HE.out]; rfl, .inl (by rw [HE.out]; rfl), HM12.out, HS12.out⟩
          · have HE := Lib.hid (show ns = Srt.set (stL (Sh.pcs a) c.stripes) from HND.out)
            go_upto_region 16 with fail
            refine wp_region_noPanic ?_
            refine wp_region_held (S := fun W => MW w W c a cs ∧ ShAt W sb rb mb c (Rm.nought c.lines.toNat) Rv.none_) (by kernel_rfl) ?_
            have hS0 : MW w w12.drew c a cs ∧ ShAt w12.drew sb rb mb c (Rm.nought c.lines.toNat) Rv.none_ := ⟨HM12.out.low (Below.refl _ _).drew, HS12.out.drew⟩
            refine takeH (fuel := 5) (i := 0) (.agg (akC a)) ?_ rfl (by kernel_rfl) (by kernel_rfl) (by kernel_rfl) (fun _ _ _ h => h) (by kernel_rfl) (fun W hS => exec_load_row AKT _ rfl (w.heap.size + 1) rfl AKT _ _ hS.1.a.cs Tryz.underlying32 rfl info_ak) hS0 ?_ ?_
            rotate_left 1
            · go_simp
              exact rfl
            refine takeH (fuel := 4) (i := 2) (.pointer (some ⟨w.heap.size, 1, none⟩)) ?_ rfl (by kernel_rfl) (by kernel_rfl) (by kernel_rfl) (fun _ _ _ h => h) (by kernel_rfl) (fun W hS => by go_simp) hS0 ?_ ?_
            rotate_left 1
            · go_simp
              exact rfl
            refine takeH (fuel := 3) (i := 3) (.int .i64 c.stripes) ?_ rfl (by kernel_rfl) (by kernel_rfl) (by kernel_rfl) (fun _ _ _ h => h) (by kernel_rfl) (fun W hS => by have k1 : W.cell? ⟨w.heap.size, 1, none⟩ = some (.int .i64 c.stripes) := hS.1.c.cell 1; go_simp) hS0 ?_ ?_
            rotate_left 1
            · go_simp
              exact rfl
            refine wpAnyH_all (fuel := 2) (rs := [1]) (by kernel_rfl) (by decide) ?_
            intro i hi
            obtain rfl : i = 1 := by simpa using hi
            refine wpOp_callX 18 #[.agg (akC a)] rfl (by kernel_rfl) (by go_simp) ?_
            refine (raccess_c a w12.drew).mono ?_
            rintro e w13 ⟨rfl, hb⟩
            have hS1 : MW w w13 c a cs ∧ ShAt w13 sb rb mb c (Rm.nought c.lines.toNat) Rv.none_ := ⟨hS0.1.low hb, hS0.2.low hb⟩
            clear hS0 hb
            refine ⟨_, rfl, hS1, ?_⟩
            refine wpAnyH_all (fuel := 1) (rs := [4]) (by kernel_rfl) (by decide) ?_
            intro i hi
            obtain rfl : i = 4 := by simpa using hi
            refine wpOp_callX 22 #[.agg (axV a.addr a.next a.cut a.size), .int .i64 c.stripes] rfl (by kernel_rfl) (by go_simp) ?_
            refine (rstripes_c a.addr a.next a.cut a.size c.stripes w13 (by have := ha.addr; omega) (by have := ha.next; omega) hst).mono ?_
            rintro e w14 ⟨v, rfl, hown, hb⟩
            have hS2 : MW w w14 c a cs ∧ ShAt w14 sb rb mb c (Rm.nought c.lines.toNat) Rv.none_ := ⟨hS1.1.low hb, hS1.2.low hb⟩
            have hown : w14.ownsRow w13.heap.size 3 1 v ns.length (iV ns) := by rw [HE.out]; exact hown
            obtain ⟨p, cap, rfl, hv, -, -⟩ := own_form hown
            have HV := Lib.hid hv
            clear hS1 hb hown hv
            refine ⟨_, rfl, hS2, ?_⟩
            refine takeH (fuel := 0) (i := 5) (.slice p ns.length cap) ?_ rfl (by kernel_rfl) (by kernel_rfl) (by kernel_rfl) (fun _ _ _ h => h) (by kernel_rfl) (fun W hS => by go_simp) hS2 ?_ ?_
            rotate_left 1
            · go_simp
              exact rfl
            refine wpAnyH_done (by kernel_rfl) ?_ _
            refine NoPanic.normal ?_
            go_wp2_with fail
            go_meet
            exact ⟨p, cap, rfl, HV.out, hS2.1, hS2.2⟩
        case rest =>
          obtain ⟨p, cap, rfl, hv, hm, hs⟩ := hcut
          have HM15 := Lib.hid (show MW w wc c a cs ∧ ShAt wc sb rb mb c (Rm.nought c.lines.toNat) Rv.none_ ∧ Vw wc p (iV ns) from ⟨hm, hs, hv⟩)
          clear hm hs hv HM12 HS12
          go_upto_region 17 with fail
          refine wp_region_noPanic ?_
          refine wp_region_held (S := fun W => MW w W c a cs ∧ ShAt W sb rb mb c (Rm.nought c.lines.toNat) Rv.none_ ∧ Vw W p (iV ns)) (by kernel_rfl) ?_
          have hS0 := HM15.out
          have hS0 : MW w wc.drew c a cs ∧ ShAt wc.drew sb rb mb c (Rm.nought c.lines.toNat) Rv.none_ ∧ Vw wc.drew p (iV ns) := ⟨hS0.1.low (Below.refl _ _).drew, hS0.2.1.drew, hS0.2.2.low (Below.refl _ _).drew⟩
          clear HM15
          refine takeH (fuel := 37) (i := 0) (.pointer (some ⟨sb, 0, none⟩)) ?_ rfl (by kernel_rfl) (by kernel_rfl) (by kernel_rfl) (fun _ _ _ h => h) (by kernel_rfl) (fun W hS => by go_simp) hS0 ?_ ?_
          rotate_left 1
          · go_simp
            exact rfl
          refine takeH (fuel := 36) (i := 1) (.bool true) ?_ rfl (by kernel_rfl) (by kernel_rfl) (by kernel_rfl) (fun _ _ _ h => h) (by kernel_rfl) (fun W hS => by go_simp) hS0 ?_ ?_
          rotate_left 1
          · go_simp
            exact rfl
          refine takeH (fuel := 35) (i := 2) (.bool true) ?_ rfl (by kernel_rfl) (by kernel_rfl) (by kernel_rfl) (fun _ _ _ h => h) (by kernel_rfl) (fun W hS => by go_simp) hS0 ?_ ?_
          rotate_left 1
          · go_simp
            exact rfl
          refine takeH (fuel := 34) (i := 3) (.int .i64 0) ?_ rfl (by kernel_rfl) (by kernel_rfl) (by kernel_rfl) (fun _ _ _ h => h) (by kernel_rfl) (fun W hS => by go_simp) hS0 ?_ ?_
          rotate_left 1
          · go_simp
            exact rfl
          refine takeH (fuel := 33) (i := 4) (.bool true) ?_ rfl (by kernel_rfl) (by kernel_rfl) (by kernel_rfl) (fun _ _ _ h => h) (by kernel_rfl) (fun W hS => by go_simp) hS0 ?_ ?_
          rotate_left 1
          · go_simp
            exact rfl
          refine takeH (fuel := 32) (i := 5) (.bool true) ?_ rfl (by kernel_rfl) (by kernel_rfl) (by kernel_rfl) (fun _ _ _ h => h) (by kernel_rfl) (fun W hS => by go_simp) hS0 ?_ ?_
          rotate_left 1
          · go_simp
            exact rfl
          refine takeH (fuel := 31) (i := 6) (.bool true) ?_ rfl (by kernel_rfl) (by kernel_rfl) (by kernel_rfl) (fun _ _ _ h => h) (by kernel_rfl) (fun W hS => by go_simp) hS0 ?_ ?_
          rotate_left 1
          · go_simp
            exact rfl
          refine takeH (fuel := 30) (i := 7) (.pointer (some ⟨sb, 0, none⟩)) ?_ rfl (by kernel_rfl) (by kernel_rfl) (by kernel_rfl) (fun _ _ _ h => h) (by kernel_rfl) (fun W hS => by go_simp) hS0 ?_ ?_
          rotate_left 1
          · go_simp
            exact rfl
          refine takeH (fuel := 29) (i := 9) (.agg (cfC c)) ?_ rfl (by kernel_rfl) (by kernel_rfl) (by kernel_rfl) (fun _ _ _ h => h) (by kernel_rfl) (fun W hS => exec_load_row CFT _ rfl w.heap.size rfl CFT _ _ hS.1.c Tryz.underlying23 rfl info_cf) hS0 ?_ ?_
          rotate_left 1
          · go_simp
            exact rfl
          refine wpAnyH_all (fuel := 28) (rs := [8]) (by kernel_rfl) (by decide) ?_
          intro i hi
          obtain rfl : i = 8 := by simpa using hi
          refine wpOp_callX 11 #[.pointer (some ⟨sb, 0, none⟩)] rfl (by kernel_rfl) (by go_simp) ?_
          refine (sconf_c wc.drew hS0.2.1).mono ?_
          rintro e wa ⟨rfl, hb⟩
          have hS1 : MW w wa c a cs ∧ ShAt wa sb rb mb c (Rm.nought c.lines.toNat) Rv.none_ ∧ Vw wa p (iV ns) := ⟨hS0.1.low hb, hS0.2.1.low hb, hS0.2.2.low hb⟩
          clear hS0 hb
          refine ⟨_, rfl, hS1, ?_⟩
          refine takeH (fuel := 27) (i := 10) (.bool true) ?_ rfl (by kernel_rfl) (by kernel_rfl) (by kernel_rfl) (fun _ _ _ h => h) (by kernel_rfl) (fun W hS => exec_cmp .eql CFT _ _ _ rfl (cfC c) (cfC c) rfl rfl guard_cf _ (eql_cf W c)) hS1 ?_ ?_
          rotate_left 1
          · go_simp
            exact rfl
          refine takeH (fuel := 26) (i := 11) (.bool true) ?_ rfl (by kernel_rfl) (by kernel_rfl) (by kernel_rfl) (fun _ _ _ h => h) (by kernel_rfl) (fun W hS => by go_simp) hS1 ?_ ?_
          rotate_left 1
          · go_simp
            exact rfl
          refine takeH (fuel := 25) (i := 12) (.bool true) ?_ rfl (by kernel_rfl) (by kernel_rfl) (by kernel_rfl) (fun _ _ _ h => h) (by kernel_rfl) (fun W hS => by go_simp) hS1 ?_ ?_
          rotate_left 1
          · go_simp
            exact rfl
          refine takeH (fuel := 24) (i := 13) (.pointer (some ⟨sb, 0, none⟩)) ?_ rfl (by kernel_rfl) (by kernel_rfl) (by kernel_rfl) (fun _ _ _ h => h) (by kernel_rfl) (fun W hS => by go_simp) hS1 ?_ ?_
          rotate_left 1
          · go_simp
            exact rfl
          refine takeH (fuel := 23) (i := 14) (.agg (akC a)) ?_ rfl (by kernel_rfl) (by kernel_rfl) (by kernel_rfl) (fun _ _ _ h => h) (by kernel_rfl) (fun W hS => exec_load_row AKT _ rfl (w.heap.size + 1) rfl AKT _ _ hS.1.a.cs Tryz.underlying32 rfl info_ak) hS1 ?_ ?_
          rotate_left 1
          · go_simp
            exact rfl
          refine takeH (fuel := 22) (i := 16) (.bool mv) ?_ rfl (by kernel_rfl) (by kernel_rfl) (by kernel_rfl) (fun _ _ _ h => h) (by kernel_rfl) (fun W hS => by go_simp) hS1 ?_ ?_
          rotate_left 1
          · go_simp
            exact rfl
          refine wpAnyH_all (fuel := 21) (rs := [15]) (by kernel_rfl) (by decide) ?_
          intro i hi
          obtain rfl : i = 15 := by simpa using hi
          refine wpOp_callX 7 #[.pointer (some ⟨sb, 0, none⟩), .agg (akC a)] rfl (by kernel_rfl) (by go_simp) ?_
          refine (HSM.out wa hS1.2.1).mono ?_
          rintro e wb ⟨rfl, hb⟩
          have hS2 : MW w wb c a cs ∧ ShAt wb sb rb mb c (Rm.nought c.lines.toNat) Rv.none_ ∧ Vw wb p (iV ns) := ⟨hS1.1.low hb, hS1.2.1.low hb, hS1.2.2.low hb⟩
          clear hS1 hb
          refine ⟨_, rfl, hS2, ?_⟩
          refine takeH (fuel := 20) (i := 17) (.bool true) ?_ rfl (by kernel_rfl) (by kernel_rfl) (by kernel_rfl) (fun _ _ _ h => h) (by kernel_rfl) (fun W hS => by go_simp) hS2 ?_ ?_
          rotate_left 1
          · go_simp
            exact rfl
          refine takeH (fuel := 19) (i := 18) (.bool true) ?_ rfl (by kernel_rfl) (by kernel_rfl) (by kernel_rfl) (fun _ _ _ h => h) (by kernel_rfl) (fun W hS => by go_simp) hS2 ?_ ?_
          rotate_left 1
          · go_simp
            exact rfl
          refine takeH (fuel := 18) (i := 19) (.bool true) ?_ rfl (by kernel_rfl) (by kernel_rfl) (by kernel_rfl) (fun _ _ _ h => h) (by kernel_rfl) (fun W hS => by go_simp) hS2 ?_ ?_
          rotate_left 1
          · go_simp
            exact rfl
          refine takeH (fuel := 17) (i := 20) (.pointer (some ⟨sb, 0, none⟩)) ?_ rfl (by kernel_rfl) (by kernel_rfl) (by kernel_rfl) (fun _ _ _ h => h) (by kernel_rfl) (fun W hS => by go_simp) hS2 ?_ ?_
          rotate_left 1
          · go_simp
            exact rfl
          refine takeH (fuel := 16) (i := 21) (.agg (akC a)) ?_ rfl (by kernel_rfl) (by kernel_rfl) (by kernel_rfl) (fun _ _ _ h => h) (by kernel_rfl) (fun W hS => exec_load_row AKT _ rfl (w.heap.size + 1) rfl AKT _ _ hS.1.a.cs Tryz.underlying32 rfl info_ak) hS2 ?_ ?_
          rotate_left 1
          · go_simp
            exact rfl
          refine takeH (fuel := 15) (i := 23) (.slice p ns.length cap) ?_ rfl (by kernel_rfl) (by kernel_rfl) (by kernel_rfl) (fun _ _ _ h => h) (by kernel_rfl) (fun W hS => by go_simp) hS2 ?_ ?_
          rotate_left 1
          · go_simp
            exact rfl
          refine wpAnyH_all (fuel := 14) (rs := [22]) (by kernel_rfl) (by decide) ?_
          intro i hi
          obtain rfl : i = 22 := by simpa using hi
          refine wpOp_callX 8 #[.pointer (some ⟨sb, 0, none⟩), .agg (akC a)] rfl (by kernel_rfl) (by go_simp) ?_
          refine (sneeds_c a ha wb hS2.2.1).mono ?_
          rintro e wh ⟨v, rfl, hown, hb⟩
          have hS3 : MW w wh c a cs ∧ ShAt wh sb rb mb c (Rm.nought c.lines.toNat) Rv.none_ ∧ Vw wh p (iV ns) := ⟨hS2.1.low hb, hS2.2.1.low hb, hS2.2.2.low hb⟩
          rw [HNS.out] at hown
          obtain ⟨q, cq, rfl, hq, -, -⟩ := own_form hown
          have HQ := Lib.hid hq
          clear hown hq
          clear hS2 hb
          refine ⟨_, rfl, hS3, ?_⟩
          refine wpAnyH_all (fuel := 13) (rs := [24]) (by kernel_rfl) (by decide) ?_
          intro i hi
          obtain rfl : i = 24 := by simpa using hi
          refine wpOp_callX 23 #[.slice q ns.length cq, .slice p ns.length cap] rfl (by kernel_rfl) (by go_simp) ?_
          refine (ints_c q p cq cap ns ns wh HQ.out hS3.2.2 (need_len HNS.out)).mono ?_
          rintro e we ⟨rfl, hb⟩
          have hS4 : MW w we c a cs ∧ ShAt we sb rb mb c (Rm.nought c.lines.toNat) Rv.none_ ∧ Vw we p (iV ns) := ⟨hS3.1.low hb, hS3.2.1.low hb, hS3.2.2.low hb⟩
          rw [show decide (ns = ns) = true by simp]
          clear hS3 hb
          refine ⟨_, rfl, hS4, ?_⟩
          refine takeH (fuel := 12) (i := 25) (.bool true) ?_ rfl (by kernel_rfl) (by kernel_rfl) (by kernel_rfl) (fun _ _ _ h => h) (by kernel_rfl) (fun W hS => by go_simp) hS4 ?_ ?_
          rotate_left 1
          · go_simp
            exact rfl
          refine takeH (fuel := 11) (i := 26) (.bool true) ?_ rfl (by kernel_rfl) (by kernel_rfl) (by kernel_rfl) (fun _ _ _ h => h) (by kernel_rfl) (fun W hS => by go_simp) hS4 ?_ ?_
          rotate_left 1
          · go_simp
            exact rfl
          refine takeH (fuel := 10) (i := 27) (.pointer (some ⟨sb, 0, none⟩)) ?_ rfl (by kernel_rfl) (by kernel_rfl) (by kernel_rfl) (fun _ _ _ h => h) (by kernel_rfl) (fun W hS => by go_simp) hS4 ?_ ?_
          rotate_left 1
          · go_simp
            exact rfl
          refine takeH (fuel := 9) (i := 30) (.pointer (some ⟨w.heap.size, 2, none⟩)) ?_ rfl (by kernel_rfl) (by kernel_rfl) (by kernel_rfl) (fun _ _ _ h => h) (by kernel_rfl) (fun W hS => by go_simp) hS4 ?_ ?_
          rotate_left 1
          · go_simp
            exact rfl
          refine takeH (fuel := 8) (i := 31) (.int .i64 c.lines) ?_ rfl (by kernel_rfl) (by kernel_rfl) (by kernel_rfl) (fun _ _ _ h => h) (by kernel_rfl) (fun W hS => by have k1 : W.cell? ⟨w.heap.size, 2, none⟩ = some (.int .i64 c.lines) := hS.1.c.cell 2; go_simp) hS4 ?_ ?_
          rotate_left 1
          · go_simp
            exact rfl
          refine wpAnyH_all (fuel := 7) (rs := [28]) (by kernel_rfl) (by decide) ?_
          intro i hi
          obtain rfl : i = 28 := by simpa using hi
          refine wpOp_callX 9 #[.pointer (some ⟨sb, 0, none⟩)] rfl (by kernel_rfl) (by go_simp) ?_
          refine (sram_c we hS4.2.1).mono ?_
          rintro e wf ⟨rfl, rfl⟩
          refine ⟨_, rfl, hS4, ?_⟩
          refine wpAnyH_all (fuel := 6) (rs := [29]) (by kernel_rfl) (by decide) ?_
          intro i hi
          obtain rfl : i = 29 := by simpa using hi
          refine wpOp_callX 24 #[.pointer (some ⟨rb, 0, none⟩)] rfl (by kernel_rfl) (by go_simp) ?_
          refine (lines_c hS4.2.1.ram).mono ?_
          rintro e wf ⟨rfl, rfl⟩
          rw [HLN.out]
          refine ⟨_, rfl, hS4, ?_⟩
          refine takeH (fuel := 5) (i := 32) (.bool true) ?_ rfl (by kernel_rfl) (by kernel_rfl) (by kernel_rfl) (fun _ _ _ h => h) (by kernel_rfl) (fun W hS => by go_simp) hS4 ?_ ?_
          rotate_left 1
          · go_simp
            exact rfl
          refine takeH (fuel := 4) (i := 33) (.bool true) ?_ rfl (by kernel_rfl) (by kernel_rfl) (by kernel_rfl) (fun _ _ _ h => h) (by kernel_rfl) (fun W hS => by go_simp) hS4 ?_ ?_
          rotate_left 1
          · go_simp
            exact rfl
          refine takeH (fuel := 3) (i := 34) (.bool true) ?_ rfl (by kernel_rfl) (by kernel_rfl) (by kernel_rfl) (fun _ _ _ h => h) (by kernel_rfl) (fun W hS => by go_simp) hS4 ?_ ?_
          rotate_left 1
          · go_simp
            exact rfl
          refine wpAnyH_all (fuel := 2) (rs := [35]) (by kernel_rfl) (by decide) ?_
          intro i hi
          obtain rfl : i = 35 := by simpa using hi
          refine wpOp_callX 19 #[] rfl (by kernel_rfl) (by go_simp) ?_
          refine (live14_c _).mono ?_
          rintro e wg ⟨rfl, hb⟩
          have hS5 : MW w wg c a cs ∧ ShAt wg sb rb mb c (Rm.nought c.lines.toNat) Rv.none_ ∧ Vw wg p (iV ns) := ⟨hS4.1.low hb, hS4.2.1.low hb, hS4.2.2.low hb⟩
          clear hS4 hb
          refine ⟨_, rfl, hS5, ?_⟩
          refine takeH (fuel := 1) (i := 36) (.bool true) ?_ rfl (by kernel_rfl) (by kernel_rfl) (by kernel_rfl) (fun _ _ _ h => h) (by kernel_rfl) (fun W hS => by go_simp) hS5 ?_ ?_
          rotate_left 1
          · go_simp
            exact rfl
          refine takeH (fuel := 0) (i := 37) (.bool true) ?_ rfl (by kernel_rfl) (by kernel_rfl) (by kernel_rfl) (fun _ _ _ h => h) (by kernel_rfl) (fun W hS => by go_simp) hS5 ?_ ?_
          rotate_left 1
          · go_simp
            exact rfl
          refine wpAnyH_done (by kernel_rfl) ?_ _
          refine NoPanic.normal ?_
          have HE := Lib.hid hS5.1.bel
          clear hS5
          go_wp2_with fail
          go_ret
          exact ⟨rfl, HE.out⟩
end Go.Proofs.YtabackklpemhpaaGreat
