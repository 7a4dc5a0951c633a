/-
  The locks of layer 12 in the program's memory: their struct, their map from locks to rows, the rows; looked up.
-/
import Derived.Test.YtgegahnjhaldeaaLkB
import Derived.Maps.OwnSet
import Derived.Maps.Views
import Derived.ArgAppend
namespace Go.Proofs.Ytgegahnjhaldeaa
open Go.ChangeShapes Go.WideShapes Go.ChangeAt Go.RowKit
variable {Z : Nat → Prop}

namespace Lk
/-! Plain lists: the rows of locks. -/
def upd (R : Int → List Int) (i : Int) (l : List Int) : Int → List Int := fun j => if j = i then l else R j
theorem upd_same (R : Int → List Int) (i : Int) (l : List Int) : upd R i l i = l := by simp [upd]
theorem upd_other (R : Int → List Int) {i j : Int} (l : List Int) (h : j ≠ i) : upd R i l j = R j := by simp [upd, h]
theorem short : ∀ (n : Nat) (xs : List Int), xs.Nodup → (∀ x ∈ xs, 0 ≤ x ∧ x < n) → xs.length ≤ n
  | 0, xs, _, h => by
    cases xs with
    | nil => simp
    | cons x l => have := h x (by simp); omega
  | n + 1, xs, hd, h => by
    by_cases hm : (n : Int) ∈ xs
    · have := short n (xs.erase (n : Int)) (hd.erase _) fun x hx => by
        rw [hd.mem_erase_iff] at hx
        have := h x hx.2
        have := hx.1
        omega
      rw [List.length_erase_of_mem hm] at this
      omega
    · have := short n xs hd fun x hx => by
        have h1 := h x hx
        have h2 : x ≠ n := fun e => hm (e ▸ hx)
        omega
      omega
/-- The rows of n locks. -/
structure Ok (R : Int → List Int) (n : Nat) : Prop where
  out : ∀ i : Int, ¬ (0 ≤ i ∧ i < (n : Int)) → R i = []
  who : ∀ i x, x ∈ R i → 0 ≤ x ∧ x < 8
  nod : ∀ i, (R i).Nodup
theorem Ok.len {R : Int → List Int} {n : Nat} (h : Ok R n) (i : Int) : (R i).length ≤ 8 := short 8 (R i) (h.nod i) (h.who i)
def cnt (R : Int → List Int) : Nat → Nat
  | 0 => 0
  | k + 1 => cnt R k + (if R k = [] then 0 else 1)
theorem cnt_le (R : Int → List Int) : ∀ k, cnt R k ≤ k
  | 0 => Nat.le_refl _
  | k + 1 => by
    have := cnt_le R k
    simp only [cnt]
    split <;> omega
theorem cnt_congr {R T : Int → List Int} : ∀ k : Nat, (∀ i : Nat, i < k → R i = T i) → cnt R k = cnt T k
  | 0, _ => rfl
  | k + 1, h => by simp only [cnt]; rw [cnt_congr k (fun i hi => h i (by omega)), h k (by omega)]
theorem cnt_upd (R : Int → List Int) (i : Nat) (l : List Int) : ∀ k, i < k → cnt (upd R i l) k + (if R i = [] then 0 else 1) = cnt R k + (if l = [] then 0 else 1)
  | 0, h => by omega
  | k + 1, h => by
    simp only [cnt]
    by_cases e : i = k
    · subst e
      rw [cnt_congr (T := R) i (fun j hj => upd_other R l (by omega)), upd_same]
      omega
    · have := cnt_upd R i l k (by omega)
      rw [upd_other R l (show (k : Int) ≠ (i : Int) by omega)]
      omega
end Lk

/-! A row's slice. -/
abbrev Hdr := Option (Nat × Nat × Nat × Nat)
def hdV : Hdr → Value
  | none => .slice none 0 0
  | some (b, o, n, c) => .slice (some ⟨b, o, none⟩) n c
def hdD : Hdr → DataW Unit
  | none => .agg []
  | some (b, o, n, c) => .agg [.lit (.int .i64 b), .lit (.int .i64 o), .lit (.int .i64 n), .lit (.int .i64 c)]
theorem hdV_inj {x y : Hdr} (h : hdV x = hdV y) : x = y := by
  rcases x with _ | ⟨a, b, c, d⟩ <;> rcases y with _ | ⟨a', b', c', d'⟩ <;> simp [hdV] at h ⊢
  obtain ⟨⟨rfl, rfl⟩, rfl, rfl⟩ := h
  simp
theorem hdD_inj {x y : Hdr} (h : hdD x = hdD y) : x = y := by
  rcases x with _ | ⟨a, b, c, d⟩ <;> rcases y with _ | ⟨a', b', c', d'⟩ <;> simp [hdD] at h ⊢
  omega
open Classical in
/-- How a row in the map reads. -/
noncomputable def rowElem (v : Value) : Option (DataW Unit × List MemPlace) := if h : ∃ x : Hdr, v = hdV x then some (hdD h.choose, []) else none
theorem rowElem_mk (x : Hdr) : rowElem (hdV x) = some (hdD x, []) := by
  have h : ∃ y : Hdr, hdV x = hdV y := ⟨x, rfl⟩
  have e : x = h.choose := hdV_inj h.choose_spec
  unfold rowElem
  rw [dif_pos h, ← e]
theorem rowElem_inv {v : Value} {x : Hdr} {ps : List MemPlace} (h : rowElem v = some (hdD x, ps)) : v = hdV x := by
  unfold rowElem at h
  split at h
  · rename_i hx
    simp only [Option.some.injEq, Prod.mk.injEq] at h
    rw [hx.choose_spec, hdD_inj h.1]
  · cases h
theorem zero_row (w : World) : (zeroValue 36).run Try.prog w = .ok (hdV none) w := by kernel_rfl

/-- A row of numbers that isn't empty: from place o of block b on, with room for c. -/
structure RwS (w : World) (base b o c : Nat) (xs : List Int) : Prop where
  pos : 0 < xs.length
  le : xs.length ≤ c
  max : c ≤ maxLen
  base : base ≤ b
  lt : b < w.heap.size
  cell : ∀ j, j < xs.length → w.cell? ⟨b, o + j, none⟩ = some (.int .i64 (xs.getD j 0))
  spare : ∀ j, j < c → (w.cell? ⟨b, o + j, none⟩).isSome = true
  froz : ∀ j, j < c → w.frozen? ⟨b, o + j, none⟩ = false
  ty : ∃ cur, CsAt w b 3 cur
def Rw (w : World) (base : Nat) (h : Hdr) (xs : List Int) : Prop := (h = none ∧ xs = []) ∨ ∃ b o c, h = some (b, o, xs.length, c) ∧ RwS w base b o c xs
/-- Nothing of what is told of a block changes where the block doesn't. -/
theorem RwS.keep {w w' : World} {base b o c : Nat} {xs : List Int} (h : RwS w base b o c xs) (hb : w'.heap[b]? = w.heap[b]?) : RwS w' base b o c xs :=
  ⟨h.pos, h.le, h.max, h.base, by
    have h1 : w.heap[b]? ≠ none := by rw [ne_eq, Array.getElem?_eq_none_iff]; have := h.lt; omega
    rw [← hb, ne_eq, Array.getElem?_eq_none_iff] at h1
    omega, fun j hj => (World.cell?_of_block (w := w) (a := ⟨b, o + j, none⟩) hb).trans (h.cell j hj), fun j hj => by rw [World.cell?_of_block (w := w) (a := ⟨b, o + j, none⟩) hb]; exact h.spare j hj, fun j hj => by rw [World.frozen?_of_block (w := w) (a := ⟨b, o + j, none⟩) hb]; exact h.froz j hj, h.ty.imp fun _ hc => hb.trans hc⟩
theorem Rw.keep {w w' : World} {base : Nat} {h : Hdr} {xs : List Int} (hr : Rw w base h xs) (hb : ∀ b o n c, h = some (b, o, n, c) → w'.heap[b]? = w.heap[b]?) : Rw w' base h xs :=
  hr.imp id fun ⟨b, o, c, e, hs⟩ => ⟨b, o, c, e, hs.keep (hb _ _ _ _ e)⟩
theorem Rw.low {w w' : World} {base : Nat} {h : Hdr} {xs : List Int} (hr : Rw w base h xs) (hb : Below w.heap.size w w') : Rw w' base h xs := by
  rcases hr with hr | ⟨b, o, c, e, hs⟩
  · exact .inl hr
  · exact .inr ⟨b, o, c, e, hs.keep (hb.block b hs.lt)⟩
theorem Rw.form {w : World} {base : Nat} {h : Hdr} {xs : List Int} (hr : Rw w base h xs) : ∃ p cap, hdV h = .slice p xs.length cap ∧ Vw w p (iV xs) ∧ (p = none ∧ cap = 0 ∨ ∃ b off, p = some ⟨b, off, none⟩) ∧ xs.length ≤ cap := by
  rcases hr with ⟨rfl, rfl⟩ | ⟨b, o, c, rfl, hs⟩
  · exact ⟨none, 0, rfl, .inl rfl, .inl ⟨rfl, rfl⟩, Nat.le_refl _⟩
  · refine ⟨_, c, rfl, .inr ⟨b, o, rfl, hs.lt, fun j u hj => ?_⟩, .inr ⟨b, o, rfl⟩, hs.le⟩
    have hl : j < xs.length := by
      have := (List.getElem?_eq_some_iff.1 hj).1
      rwa [iV_len] at this
    rw [hs.cell j hl, ← hj, iV_at xs j hl]

/-! The locks. -/
abbrev KI : TypeId := 3
theorem int_law : Maps.Keyed Try.prog KI := Maps.int_keyed Try.underlying3
def kL (i : Int) : Lit := .int .i64 i
theorem key_int {i : Int} (h : InI i) : keyOf Try.prog KI (.int .i64 i) = some (kL i) := Maps.keyOf_int_mk Try.underlying3 (WalkArith.wf_i64 h)
theorem kL_inj {i j : Int} (h : kL i = kL j) : i = j := by simpa [kL] using h
theorem kL_key (i : Int) (h : InI i) : WideAt.IsKeyLit (kL i) := int_law.key (key_int h)
/-- What the map holds. -/
structure FitsL (D : DataW Unit) (n : Nat) (hs : Int → Hdr) (R : Int → List Int) : Prop where
  at_ : ∀ i, InI i → D.atKey (kL i) (hdD none) = hdD (hs i)
  has : ∀ i, InI i → Maps.has D (kL i) = decide (R i ≠ [])
  size : Maps.size D = Lk.cnt R n
/-- n locks with these rows: their struct at block lp, their map at block mb. -/
structure LkAt (Z : Nat → Prop) (w : World) (base lp mb n : Nat) (R : Int → List Int) : Prop where
  ok : Lk.Ok R n
  n0 : 1 ≤ n
  n1 : n ≤ 128
  c0 : w.cell? ⟨lp, 0, none⟩ = some (.int .i64 (n : Int))
  c1 : w.cell? ⟨lp, 1, none⟩ = some (.map (some mb))
  b0 : base ≤ lp
  b1 : base ≤ mb
  lt : lp < w.heap.size
  ne : lp ≠ mb
  flt : ∀ k, Z k → k < w.heap.size ∧ k ≠ mb
  own : ∃ D hs, w.ownsMap Try.prog KI rowElem mb (Maps.size D) D ∧ FitsL D n hs R ∧ (∀ i, InI i → Rw w base (hs i) (R i)) ∧ (∀ i b o m c, InI i → hs i = some (b, o, m, c) → b ≠ lp ∧ b ≠ mb ∧ ¬ Z b) ∧
    ∀ i j b o m c o' m' c', InI i → InI j → hs i = some (b, o, m, c) → hs j = some (b, o', m', c') → i = j
/-- What is none of theirs is as it was. -/
def KeptZ (Z : Nat → Prop) (w w' : World) : Prop := ∀ k, Z k → w'.heap[k]? = w.heap[k]?
theorem KeptZ.refl (w : World) : KeptZ Z w w := fun _ _ => rfl
/-- A cell of a block that is none of theirs changes nothing of the locks. -/
theorem LkAt.far {w : World} {base lp mb n : Nat} {R : Int → List Int} (h : LkAt Z w base lp mb n R) {b i : Nat} (hz : Z b) (hl : b ≠ lp) (v : Value) : LkAt Z (w.setCell ⟨b, i, none⟩ v) base lp mb n R := by
  obtain ⟨D, hs, hD, hF, hR, hX, hY⟩ := h.own
  have hblk : ∀ k, k ≠ b → (w.setCell ⟨b, i, none⟩ v).heap[k]? = w.heap[k]? := fun k hk => heap_setCell_other w ⟨b, i, none⟩ k v hk
  have hm : mb ≠ b := fun e => (h.flt b hz).2 e.symm
  refine ⟨h.ok, h.n0, h.n1, (World.cell?_of_block (w := w) (a := ⟨lp, 0, none⟩) (hblk lp (by omega))).trans h.c0, (World.cell?_of_block (w := w) (a := ⟨lp, 1, none⟩) (hblk lp (by omega))).trans h.c1, h.b0, h.b1, by rw [World.size_setCell]; exact h.lt, h.ne, fun k hk => by rw [World.size_setCell]; exact h.flt k hk, D, hs, hD.setCell (a := ⟨b, i, none⟩) hm v, hF, fun j hj => ?_, hX, hY⟩
  rcases hR j hj with hn | ⟨b', o, c, e, hS⟩
  · exact .inl hn
  · exact .inr ⟨b', o, c, e, hS.keep (hblk b' (fun e2 => (hX j b' o _ c hj e).2.2 (e2 ▸ hz)))⟩
theorem LkAt.mlt {w : World} {base lp mb n : Nat} {R : Int → List Int} (h : LkAt Z w base lp mb n R) : mb < w.heap.size := by obtain ⟨D, hs, hD, -⟩ := h.own; exact hD.lt
theorem LkAt.low {w w' : World} {base lp mb n : Nat} {R : Int → List Int} (h : LkAt Z w base lp mb n R) (hb : Below w.heap.size w w') : LkAt Z w' base lp mb n R := by
  obtain ⟨D, hs, hD, hF, hR, hX, hY⟩ := h.own
  exact ⟨h.ok, h.n0, h.n1, (hb.cell (p := ⟨lp, 0, none⟩) h.lt).trans h.c0, (hb.cell (p := ⟨lp, 1, none⟩) h.lt).trans h.c1, h.b0, h.b1, Nat.lt_of_lt_of_le h.lt hb.size, h.ne, fun k hk => ⟨Nat.lt_of_lt_of_le (h.flt k hk).1 hb.size, (h.flt k hk).2⟩, D, hs, hD.kept (row := none) ⟨hb.os, hb.tape, hb.output, hb.size, fun i hi _ => hb.block i hi⟩ (by simp), hF, fun i hi => (hR i hi).low hb, hX, hY⟩
/-- More is none of theirs: blocks that were made since. -/
theorem LkAt.more {w w' : World} {base lp mb n : Nat} {R : Int → List Int} (h : LkAt Z w base lp mb n R) (hb : Below w.heap.size w w') {Y : Nat → Prop} (hy : ∀ k, Y k → Z k ∨ (w.heap.size ≤ k ∧ k < w'.heap.size)) : LkAt Y w' base lp mb n R := by
  have hm : mb < w.heap.size := by obtain ⟨D, hs, hD, -⟩ := h.own; exact hD.lt
  have hl := h.low hb
  obtain ⟨D, hs, hD, hF, hR, hX, hY⟩ := h.own
  obtain ⟨D, hs, hD, hF, hR, hX, hY⟩ : ∃ D hs, w'.ownsMap Try.prog KI rowElem mb (Maps.size D) D ∧ FitsL D n hs R ∧ (∀ i, InI i → Rw w' base (hs i) (R i)) ∧ (∀ i b o m c, InI i → hs i = some (b, o, m, c) → b ≠ lp ∧ b ≠ mb ∧ ¬ Y b) ∧
      ∀ i j b o m c o' m' c', InI i → InI j → hs i = some (b, o, m, c) → hs j = some (b, o', m', c') → i = j :=
    ⟨D, hs, hD.kept (row := none) ⟨hb.os, hb.tape, hb.output, hb.size, fun i hi _ => hb.block i hi⟩ (by simp), hF, fun i hi => (hR i hi).low hb, fun i b o m c hi e => by
      obtain ⟨x1, x2, x3⟩ := hX i b o m c hi e
      refine ⟨x1, x2, fun hyb => ?_⟩
      rcases hy b hyb with hz | hz
      · exact x3 hz
      · rcases hR i hi with ⟨e2, -⟩ | ⟨b', o', c', e2, hS⟩
        · rw [e2] at e; cases e
        · rw [e2] at e; cases e; have := hS.lt; omega, hY⟩
  exact ⟨hl.ok, hl.n0, hl.n1, hl.c0, hl.c1, hl.b0, hl.b1, hl.lt, hl.ne, fun k hk => by
    rcases hy k hk with hz | hz
    · exact hl.flt k hz
    · exact ⟨hz.2, by omega⟩, D, hs, hD, hF, hR, hX, hY⟩
theorem own_resetL {w : World} {b n : Nat} {D : DataW Unit} {R : Value → Option (DataW Unit × List MemPlace)} (h : w.ownsMap Try.prog KI R b n D) : w.ownsMap Try.prog KI R b (Maps.size D) D := by
  obtain ⟨es, clock, hb, F, hs, rfl⟩ := h
  refine ⟨es, clock, hb, F, ?_, rfl⟩
  simp [Maps.size, length_sorted]
/-- Locks, or none. -/
def LkV (w : World) (lv : Value) (n : Nat) (R : Int → List Int) : Prop := (lv = .pointer none ∧ n = 0 ∧ R = fun _ => []) ∨ ∃ (Z : Nat → Prop) (base lp mb : Nat), lv = .pointer (some ⟨lp, 0, none⟩) ∧ LkAt Z w base lp mb n R
theorem LkV.low {w w' : World} {lv : Value} {n : Nat} {R : Int → List Int} (h : LkV w lv n R) (hb : Below w.heap.size w w') : LkV w' lv n R :=
  h.imp id fun ⟨Z, base, lp, mb, e, hL⟩ => ⟨Z, base, lp, mb, e, hL.low hb⟩
theorem LkV.ok {w : World} {lv : Value} {n : Nat} {R : Int → List Int} (h : LkV w lv n R) : Lk.Ok R n := by
  rcases h with ⟨-, rfl, rfl⟩ | ⟨_, _, _, _, -, hL⟩
  · exact ⟨fun _ _ => rfl, fun _ _ h => by simp at h, fun _ => List.nodup_nil⟩
  · exact hL.ok
theorem LkV.le {w : World} {lv : Value} {n : Nat} {R : Int → List Int} (h : LkV w lv n R) : n ≤ 128 := by
  rcases h with ⟨-, rfl, rfl⟩ | ⟨_, _, _, _, -, hL⟩
  · omega
  · exact hL.n1
set_option maxHeartbeats 1000000 in
theorem row_c (lv : Value) (i : Int) (n : Nat) (R : Int → List Int) (w : World) (h : LkV w lv n R) (hi : InI i) :
    Calls Try.prog 32 #[lv, .int .i64 i] w fun e w' => (∃ p cap, e = .returned (.slice p (R i).length cap) ∧ Vw w p (iV (R i)) ∧ (p = none ∧ cap = 0 ∨ ∃ b off, p = some ⟨b, off, none⟩) ∧ (R i).length ≤ cap) ∧ w = w' := by
  rcases h with ⟨rfl, -, rfl⟩ | ⟨Z, base, lp, mb, rfl, hL⟩
  · go_enter Try.func32, Try.ntmps32
    go_wp2_with fail
    go_ret
    exact ⟨⟨none, 0, rfl, .inl rfl, .inl ⟨rfl, rfl⟩, Nat.le_refl _⟩, rfl⟩
  · have c1 := hL.c1
    obtain ⟨D, hs, hD, hF, hR, -, -⟩ := hL.own
    obtain ⟨v, ps, hrun, hv⟩ := hD.lookup int_law Try.underlying63 (zero_row w) (rowElem_mk none) (key_int hi)
    rw [hF.at_ i hi] at hv
    obtain rfl := rowElem_inv hv
    obtain ⟨p, cap, he, hvw, hp⟩ := (hR i hi).form
    have HE := Lib.hid (show (∃ p cap, Ending.returned (hdV (hs i)) = .returned (.slice p (R i).length cap) ∧ Vw w p (iV (R i)) ∧ (p = none ∧ cap = 0 ∨ ∃ b off, p = some ⟨b, off, none⟩) ∧ (R i).length ≤ cap) from ⟨p, cap, by rw [he], hvw, hp⟩)
    generalize hdV (hs i) = rv at *
    clear he hvw hp hD hF hR hv
    go_enter Try.func32, Try.ntmps32
    go_wp2_with fail
    go_ret
    exact ⟨HE.out, rfl⟩
set_option maxHeartbeats 1000000 in
theorem rowH_c (i : Int) (base lp mb n : Nat) (R : Int → List Int) (w : World) (hL : LkAt Z w base lp mb n R) {D : DataW Unit} {hs : Int → Hdr} (hD : w.ownsMap Try.prog KI rowElem mb (Maps.size D) D) (hF : FitsL D n hs R) (hi : InI i) :
    Calls Try.prog 32 #[.pointer (some ⟨lp, 0, none⟩), .int .i64 i] w fun e w' => e = .returned (hdV (hs i)) ∧ w = w' := by
  have c1 := hL.c1
  obtain ⟨v, ps, hrun, hv⟩ := hD.lookup int_law Try.underlying63 (zero_row w) (rowElem_mk none) (key_int hi)
  rw [hF.at_ i hi] at hv
  obtain rfl := rowElem_inv hv
  generalize hdV (hs i) = rv at *
  clear hD hF hv hL
  go_enter Try.func32, Try.ntmps32
  go_wp2_with fail
  go_ret
  exact ⟨rfl, rfl⟩
end Go.Proofs.Ytgegahnjhaldeaa
