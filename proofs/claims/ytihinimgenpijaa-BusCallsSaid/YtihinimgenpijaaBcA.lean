/-
  Plain numbers, no program: a byte that comes in and interrupts (BusCalls).
-/
import Derived.Test.YtihinimgenpijaaBuH
set_option maxRecDepth 20000
namespace Go.Proofs.Ytihinimgenpijaa
open Go.ChangeShapes Go.WideShapes Go.ChangeAt Go.RowKit
namespace Bs
abbrev readA (addr size : Int) : Ak := ⟨9, addr, 0, 0, size, 0, 0, 0, false, 0, ⟨false, false, false, 0, 0⟩, ⟨0, 0, 0, 0⟩⟩
def c0 : B := new 8
def c1 (p : Nat) : B := doX c0 0 (layA 201326632 4 p)
def c2 (h p : Nat) : B := doX (c1 p) 0 (layA (201334784 + 128 * (2 * (h : Int))) 4 1024)
def c3 (h p l : Nat) : B := doX (c2 h p) 0 (layA (203423744 + 4096 * (2 * (h : Int))) 4 l)
def c4 (h p l : Nat) (x : Int) : B := doX (c3 h p l) 0 (inA x)
def c5 (h p l : Nat) (x : Int) : B := doX (c4 h p l x) 0 (layA 268435457 1 1)
def c6 (h p l : Nat) (x : Int) : B := doX (c5 h p l x) h (readA (203423748 + 4096 * (2 * (h : Int))) 4)
def c7 (h p l : Nat) (x : Int) : B := doX (c6 h p l x) h (readA 268435456 1)
def c8 (h p l : Nat) (x : Int) : B := doX (c7 h p l x) 0 (layA (203423748 + 4096 * (2 * (h : Int))) 4 10)
def chk (h p l : Nat) (x : Int) : Bool :=
  goB c0 0 (layA 201326632 4 p) && goB (c1 p) 0 (layA (201334784 + 128 * (2 * (h : Int))) 4 1024) && goB (c2 h p) 0 (layA (203423744 + 4096 * (2 * (h : Int))) 4 l)
  && goB (c4 h p l x) 0 (layA 268435457 1 1) && goB (c6 h p l x) h (readA 268435456 1) && goB (c7 h p l x) 0 (layA (203423748 + 4096 * (2 * (h : Int))) 4 10)
  && (lineB (c4 h p l x) h == 0) && (lineB (c5 h p l x) h == if l < p then 2048 else 0) && (doV (c5 h p l x) h (readA (203423748 + 4096 * (2 * (h : Int))) 4) == if 0 < p then 10 else 0)
  && (lineB (c6 h p l x) h == 0) && (lineB (c8 h p l x) h == 0)
def chkN (h p l : Nat) (x : Int) : Bool :=
  ((c0).u.out.length == 0) && ((c1 p).u.out.length == 0) && ((c2 h p).u.out.length == 0) && ((c3 h p l).u.out.length == 0) && ((c4 h p l x).u.out.length == 0) && ((c5 h p l x).u.out.length == 0) && ((c6 h p l x).u.out.length == 0) && ((c7 h p l x).u.out.length == 0)
theorem chk_range (x : Int) : ((List.range 8).all fun h => (List.range 8).all fun p => (List.range 8).all fun l => chk h p l x && chkN h p l x) = true := by kernel_rfl
theorem chk_all {h p l : Nat} (hh : h < 8) (hp : p < 8) (hl : l < 8) (x : Int) : chk h p l x = true ∧ chkN h p l x = true := by
  have a1 := List.all_eq_true.1 (chk_range x) h (by simpa using hh)
  have a2 := List.all_eq_true.1 a1 p (by simpa using hp)
  have a3 := List.all_eq_true.1 a2 l (by simpa using hl)
  simpa using a3
theorem read_range (x : Int) : ((List.range 8).flatMap fun h => (List.range 8).flatMap fun p => (List.range 8).map fun l => doV (c6 h p l x) h (readA 268435456 1)) = List.replicate 512 (x % 256) := by kernel_rfl
theorem read_all {h p l : Nat} (hh : h < 8) (hp : p < 8) (hl : l < 8) (x : Int) : doV (c6 h p l x) h (readA 268435456 1) = x % 256 := by
  have hm : doV (c6 h p l x) h (readA 268435456 1) ∈ (List.range 8).flatMap fun h => (List.range 8).flatMap fun p => (List.range 8).map fun l => doV (c6 h p l x) h (readA 268435456 1) := by
    simp only [List.mem_flatMap, List.mem_map, List.mem_range]
    exact ⟨h, hh, p, hp, l, hl, rfl⟩
  rw [read_range x] at hm
  exact (List.mem_replicate.1 hm).2
end Bs
end Go.Proofs.Ytihinimgenpijaa
