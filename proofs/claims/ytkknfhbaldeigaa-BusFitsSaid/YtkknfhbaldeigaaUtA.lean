/-
  Plain numbers and lists, no program: what a port is, and what is read, written and comes in (layer 17).
-/
import Derived.Test.YtkknfhbaldeigaaRow
namespace Go.Proofs.Ytkknfhbaldeigaa.Ut

/-- A port. -/
structure S where
  ier : Int
  lcr : Int
  mcr : Int
  scr : Int
  dll : Int
  dlm : Int
  fifo : Bool
  lost : Bool
  empty : Bool
  q : List Int
  out : List Int
/-- A number's bit. -/
def bt (x : Int) (i : Nat) : Bool := decide (x / 2 ^ i % 2 = 1)
def isB (x : Int) : Prop := 0 ≤ x ∧ x < 256
structure Ok (s : S) : Prop where
  ier : 0 ≤ s.ier ∧ s.ier < 16
  lcr : isB s.lcr
  mcr : 0 ≤ s.mcr ∧ s.mcr < 32
  scr : isB s.scr
  dll : isB s.dll
  dlm : isB s.dlm
  qs : ∀ x ∈ s.q, isB x
  outs : ∀ x ∈ s.out, isB x
  qn : s.q.length ≤ 16
def room (s : S) : Nat := if s.fifo = true then 16 else 1
def comeS (s : S) (b : Int) : S := if room s ≤ s.q.length then { s with lost := true } else { s with q := s.q ++ [b] }
def comeB (s : S) : Bool := decide (s.q.length < room s)
def cause (s : S) : Int := if bt s.ier 2 = true ∧ s.lost = true then 6 else if bt s.ier 0 = true ∧ s.q ≠ [] then 4 else if bt s.ier 1 = true ∧ s.empty = true then 2 else 1
def b2i (b : Bool) : Int := if b = true then 1 else 0
def modem (m : Int) : Int := if bt m 4 = true then 16 * b2i (bt m 1) + 32 * b2i (bt m 0) + 64 * b2i (bt m 2) + 128 * b2i (bt m 3) else 176
def hi (s : S) : Bool := bt s.lcr 7
def lp (s : S) : Bool := bt s.mcr 4
def readV (s : S) (off : Int) : Int :=
  if off = 0 then (if hi s = true then s.dll else s.q.getD 0 0)
  else if off = 1 then (if hi s = true then s.dlm else s.ier)
  else if off = 2 then cause s + (if s.fifo = true then 192 else 0)
  else if off = 3 then s.lcr
  else if off = 4 then s.mcr
  else if off = 5 then 96 + (if s.q ≠ [] then 1 else 0) + (if s.lost = true then 2 else 0)
  else if off = 6 then modem s.mcr
  else if off = 7 then s.scr else 0
def readS (s : S) (off : Int) : S :=
  if off = 0 then (if hi s = true then s else { s with q := s.q.drop 1 })
  else if off = 2 then (if cause s = 2 then { s with empty := false } else s)
  else if off = 5 then { s with lost := false } else s
def writeS (s : S) (off b : Int) : S :=
  if off = 0 then (if hi s = true then { s with dll := b } else if lp s = true then { comeS s b with empty := true } else { s with out := s.out ++ [b], empty := true })
  else if off = 1 then (if hi s = true then { s with dlm := b } else { s with empty := s.empty || (bt b 1 && !bt s.ier 1), ier := b % 16 })
  else if off = 2 then { s with q := if bt b 0 ≠ s.fifo ∨ bt b 1 = true then [] else s.q, fifo := bt b 0 }
  else if off = 3 then { s with lcr := b }
  else if off = 4 then { s with mcr := b % 32 }
  else if off = 7 then { s with scr := b } else s
def inS (s : S) (b : Int) : S := if lp s = true then s else comeS s b
def inB (s : S) : Bool := !lp s && comeB s
def is (off : Int) : Bool := decide (off < 8)
def zero : S := ⟨0, 0, 0, 0, 0, 0, false, false, false, [], []⟩
theorem zero_ok : Ok zero := ⟨by decide, by unfold isB; decide, by decide, by unfold isB; decide, by unfold isB; decide, by unfold isB; decide, by simp [zero], by simp [zero], by simp [zero]⟩
section
variable {s : S} {b off : Int}
theorem come_ok (h : Ok s) (hb : isB b) : Ok (comeS s b) := by
  unfold comeS
  split
  · exact ⟨h.ier, h.lcr, h.mcr, h.scr, h.dll, h.dlm, h.qs, h.outs, h.qn⟩
  · rename_i hn
    refine ⟨h.ier, h.lcr, h.mcr, h.scr, h.dll, h.dlm, fun x hx => ?_, h.outs, ?_⟩
    · simp only [List.mem_append, List.mem_singleton] at hx
      rcases hx with hx | rfl
      · exact h.qs x hx
      · exact hb
    · unfold room at hn
      simp only [List.length_append, List.length_singleton]
      split at hn <;> omega
theorem read_ok (h : Ok s) (off : Int) : Ok (readS s off) := by
  unfold readS
  split
  · split
    · exact h
    · exact ⟨h.ier, h.lcr, h.mcr, h.scr, h.dll, h.dlm, fun x hx => h.qs x (List.mem_of_mem_drop hx), h.outs, by have := h.qn; simp only [List.length_drop]; omega⟩
  · split
    · split
      · exact ⟨h.ier, h.lcr, h.mcr, h.scr, h.dll, h.dlm, h.qs, h.outs, h.qn⟩
      · exact h
    · split
      · exact ⟨h.ier, h.lcr, h.mcr, h.scr, h.dll, h.dlm, h.qs, h.outs, h.qn⟩
      · exact h
theorem write_ok (h : Ok s) (hb : isB b) : Ok (writeS s off b) := by
  have hc := come_ok h hb
  unfold writeS
  split
  · split
    · exact ⟨h.ier, h.lcr, h.mcr, h.scr, hb, h.dlm, h.qs, h.outs, h.qn⟩
    · split
      · exact ⟨hc.ier, hc.lcr, hc.mcr, hc.scr, hc.dll, hc.dlm, hc.qs, hc.outs, hc.qn⟩
      · refine ⟨h.ier, h.lcr, h.mcr, h.scr, h.dll, h.dlm, h.qs, fun x hx => ?_, h.qn⟩
        simp only [List.mem_append, List.mem_singleton] at hx
        rcases hx with hx | rfl
        · exact h.outs x hx
        · exact hb
  · split
    · split
      · exact ⟨h.ier, h.lcr, h.mcr, h.scr, h.dll, hb, h.qs, h.outs, h.qn⟩
      · exact ⟨by dsimp only; omega, h.lcr, h.mcr, h.scr, h.dll, h.dlm, h.qs, h.outs, h.qn⟩
    · split
      · refine ⟨h.ier, h.lcr, h.mcr, h.scr, h.dll, h.dlm, fun x hx => ?_, h.outs, ?_⟩
        · dsimp only at hx
          split at hx
          · cases hx
          · exact h.qs x hx
        · dsimp only
          split
          · simp
          · exact h.qn
      · split
        · exact ⟨h.ier, hb, h.mcr, h.scr, h.dll, h.dlm, h.qs, h.outs, h.qn⟩
        · split
          · exact ⟨h.ier, h.lcr, by dsimp only; omega, h.scr, h.dll, h.dlm, h.qs, h.outs, h.qn⟩
          · split
            · exact ⟨h.ier, h.lcr, h.mcr, hb, h.dll, h.dlm, h.qs, h.outs, h.qn⟩
            · exact h
theorem in_ok (h : Ok s) (hb : isB b) : Ok (inS s b) := by
  unfold inS
  split
  · exact h
  · exact come_ok h hb
/-- How long what went out is. -/
theorem read_out : (readS s off).out = s.out := by
  unfold readS
  repeat' split
  all_goals rfl
theorem come_out : (comeS s b).out = s.out := by
  unfold comeS
  split <;> rfl
theorem write_out : (writeS s off b).out.length ≤ s.out.length + 1 := by
  have hc := come_out (s := s) (b := b)
  unfold writeS
  repeat' split
  all_goals first | omega | (simp only [List.length_append, List.length_singleton]; omega) | (dsimp only; rw [hc]; omega)
theorem in_out : (inS s b).out = s.out := by
  unfold inS
  split
  · rfl
  · exact come_out
end
end Go.Proofs.Ytkknfhbaldeigaa.Ut
