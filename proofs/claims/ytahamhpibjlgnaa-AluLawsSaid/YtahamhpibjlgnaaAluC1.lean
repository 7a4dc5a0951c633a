/-
  What alu.long, short, product (layer 7) hand out.
-/
import Derived.Test.YtahamhpibjlgnaaAluA
import Derived.Shelf.Abstract
namespace Go.Proofs.Ytahamhpibjlgnaa
open Go.ChangeShapes Go.WideShapes Go.ChangeAt Go.RowKit Wd

def InW (x : Int) : Prop := 0 ≤ x ∧ x < 18446744073709551616
/-- The function value reckons g, in any world that keeps what it captured. -/
def FnIs (W : World) (fn : FuncId) (cap : Array Value) (g : Int → Int → Int) : Prop :=
  ∀ a b w, InW a → InW b → Below W.heap.size W w → Calls Try.prog fn (#[.int .u64 a, .int .u64 b] ++ cap) w fun e w' => e = .returned (.int .u64 (g a b)) ∧ Below w.heap.size w w'
theorem calm {f : FuncId} {args : Array Value} {w : World} {e0 : Ending} (h : Calls Try.prog f args w fun e w' => e = e0 ∧ w = w') : Calls Try.prog f args w fun e w' => e = e0 ∧ Below w.heap.size w w' :=
  h.mono fun _ _ ⟨a, b⟩ => ⟨a, b ▸ Below.refl _ _⟩
def Hands (F : FuncId) (op : Int) (g : Int → Int → Int) : Prop :=
  ∀ w, Calls Try.prog F #[.int .i64 op] w fun e w' => ∃ fn cap, e = .returned (.func (.func fn) #[] cap) ∧ Below w.heap.size w w' ∧ Go.Proofs.Enters Try.prog fn ∧ FnIs w' fn cap g
def Hands0 (F : FuncId) (op : Int) : Prop := ∀ w, Calls Try.prog F #[.int .i64 op] w fun e w' => e = .returned .nilFunc ∧ w = w'
theorem box_cell {w w2 : World} {v : Value} {t : TypeId} (h : Below (w.alloc (.cells #[v] t)).heap.size (w.alloc (.cells #[v] t)) w2) : w2.cell? ⟨w.heap.size, 0, none⟩ = some v := by
  rw [h.cell (p := ⟨w.heap.size, 0, none⟩) (by simp)]
  simp [go_sem]
theorem flag_c (f : FuncId) (w : World) : Calls Try.prog 40 #[.func (.func f) #[] #[]] w fun e w' => e = .returned (.func (.func 68) #[] #[.pointer (some ⟨w.heap.size, 0, none⟩)]) ∧ w' = w.alloc (.cells #[.func (.func f) #[] #[]] 51) := by
  go_enter Try.func40, Try.ntmps40
  go_wp2
  go_ret
  exact ⟨rfl, rfl⟩
theorem trim_c (f : FuncId) (w : World) : Calls Try.prog 45 #[.func (.func f) #[] #[]] w fun e w' => e = .returned (.func (.func 69) #[] #[.pointer (some ⟨w.heap.size, 0, none⟩)]) ∧ w' = w.alloc (.cells #[.func (.func f) #[] #[]] 46) := by
  go_enter Try.func45, Try.ntmps45
  go_wp2
  go_ret
  exact ⟨rfl, rfl⟩
theorem half_h (f : FuncId) (p : Bool) (w : World) : Calls Try.prog 57 #[.func (.func f) #[] #[], .bool p] w fun e w' => e = .returned (.func (.func 72) #[] #[.pointer (some ⟨w.heap.size, 0, none⟩), .pointer (some ⟨w.heap.size + 1, 0, none⟩)]) ∧ w' = (w.alloc (.cells #[.func (.func f) #[] #[]] 46)).alloc (.cells #[.bool p] 4) := by
  go_enter Try.func57, Try.ntmps57
  go_wp2
  go_ret
  exact ⟨rfl, rfl⟩
theorem two_cells {w w2 : World} {u v : Value} {s t : TypeId} (h : Below ((w.alloc (.cells #[u] s)).alloc (.cells #[v] t)).heap.size ((w.alloc (.cells #[u] s)).alloc (.cells #[v] t)) w2) :
    w2.cell? ⟨w.heap.size, 0, none⟩ = some u ∧ w2.cell? ⟨w.heap.size + 1, 0, none⟩ = some v := by
  rw [h.cell (p := ⟨w.heap.size, 0, none⟩) (by simp; omega), h.cell (p := ⟨w.heap.size + 1, 0, none⟩) (by simp)]
  refine ⟨?_, ?_⟩ <;> simp [go_sem, World.cell?_alloc_past]

theorem half_mul (a b : Int) (p : Bool) (pc pd : Nat) (w : World) (hc : w.cell? ⟨pc, 0, none⟩ = some (.func (.func 49) #[] #[])) (hd : w.cell? ⟨pd, 0, none⟩ = some (.bool p))
    (ha : InW a) (hb : InW b) :
    Calls Try.prog 72 #[.int .u64 a, .int .u64 b, .pointer (some ⟨pc, 0, none⟩), .pointer (some ⟨pd, 0, none⟩)] w fun e w' => e = .returned (.int .u64 (signS (mulLo (halfS a p) (halfS b p)) 32)) ∧ w = w' := by
  have HA := Lib.hid ha
  have HB := Lib.hid hb
  go_enter Try.func72, Try.ntmps72
  go_wp2_with (go_at_call 73; refine (short_mul _ _ _ _ HA.out.1 HA.out.2 HB.out.1 HB.out.2).mono ?_; rintro e w' ⟨rfl, rfl⟩)
  go_ret
  exact ⟨rfl, rfl⟩
theorem half_div (a b : Int) (p : Bool) (pc pd : Nat) (w : World) (hc : w.cell? ⟨pc, 0, none⟩ = some (.func (.func 53) #[] #[])) (hd : w.cell? ⟨pd, 0, none⟩ = some (.bool p))
    (ha : InW a) (hb : InW b) :
    Calls Try.prog 72 #[.int .u64 a, .int .u64 b, .pointer (some ⟨pc, 0, none⟩), .pointer (some ⟨pd, 0, none⟩)] w fun e w' => e = .returned (.int .u64 (signS (divS (halfS a p) (halfS b p)) 32)) ∧ w = w' := by
  have HA := Lib.hid ha
  have HB := Lib.hid hb
  go_enter Try.func72, Try.ntmps72
  go_wp2_with (go_at_call 73; refine (short_div _ _ _ _ HA.out.1 HA.out.2 HB.out.1 HB.out.2).mono ?_; rintro e w' ⟨rfl, rfl⟩)
  go_ret
  exact ⟨rfl, rfl⟩
theorem half_rem (a b : Int) (p : Bool) (pc pd : Nat) (w : World) (hc : w.cell? ⟨pc, 0, none⟩ = some (.func (.func 55) #[] #[])) (hd : w.cell? ⟨pd, 0, none⟩ = some (.bool p))
    (ha : InW a) (hb : InW b) :
    Calls Try.prog 72 #[.int .u64 a, .int .u64 b, .pointer (some ⟨pc, 0, none⟩), .pointer (some ⟨pd, 0, none⟩)] w fun e w' => e = .returned (.int .u64 (signS (remS (halfS a p) (halfS b p)) 32)) ∧ w = w' := by
  have HA := Lib.hid ha
  have HB := Lib.hid hb
  go_enter Try.func72, Try.ntmps72
  go_wp2_with (go_at_call 73; refine (short_rem _ _ _ _ HA.out.1 HA.out.2 HB.out.1 HB.out.2).mono ?_; rintro e w' ⟨rfl, rfl⟩)
  go_ret
  exact ⟨rfl, rfl⟩
theorem half_divp (a b : Int) (p : Bool) (pc pd : Nat) (w : World) (hc : w.cell? ⟨pc, 0, none⟩ = some (.func (.func 54) #[] #[])) (hd : w.cell? ⟨pd, 0, none⟩ = some (.bool p))
    (ha : InW a) (hb : InW b) :
    Calls Try.prog 72 #[.int .u64 a, .int .u64 b, .pointer (some ⟨pc, 0, none⟩), .pointer (some ⟨pd, 0, none⟩)] w fun e w' => e = .returned (.int .u64 (signS (divP (halfS a p) (halfS b p)) 32)) ∧ w = w' := by
  have HA := Lib.hid ha
  have HB := Lib.hid hb
  go_enter Try.func72, Try.ntmps72
  go_wp2_with (go_at_call 73; refine (short_divp _ _ _ _ HA.out.1 HA.out.2 HB.out.1 HB.out.2).mono ?_; rintro e w' ⟨rfl, rfl⟩)
  go_ret
  exact ⟨rfl, rfl⟩
theorem half_remp (a b : Int) (p : Bool) (pc pd : Nat) (w : World) (hc : w.cell? ⟨pc, 0, none⟩ = some (.func (.func 56) #[] #[])) (hd : w.cell? ⟨pd, 0, none⟩ = some (.bool p))
    (ha : InW a) (hb : InW b) :
    Calls Try.prog 72 #[.int .u64 a, .int .u64 b, .pointer (some ⟨pc, 0, none⟩), .pointer (some ⟨pd, 0, none⟩)] w fun e w' => e = .returned (.int .u64 (signS (remP (halfS a p) (halfS b p)) 32)) ∧ w = w' := by
  have HA := Lib.hid ha
  have HB := Lib.hid hb
  go_enter Try.func72, Try.ntmps72
  go_wp2_with (go_at_call 73; refine (short_remp _ _ _ _ HA.out.1 HA.out.2 HB.out.1 HB.out.2).mono ?_; rintro e w' ⟨rfl, rfl⟩)
  go_ret
  exact ⟨rfl, rfl⟩
end Go.Proofs.Ytahamhpibjlgnaa
