/-
  The law TopSerial: what stands in a round, and a job's step. The law TopSerial: a line of the reference's memory. What came in, opened: a slice of integers of any kind.
-/
import Derived.Test.YtjeolfcefeglpabGreatXbs
import Derived.Test.YtjeolfcefeglpabGreatXad
import Derived.Test.YtjeolfcefeglpabGreatXan
import Derived.Deep.Slices
set_option maxRecDepth 20000
namespace Go.Proofs.YtjeolfcefeglpabGreat
open Go.ChangeShapes Go.WideShapes Go.ChangeAt Go.RowKit Wd

/-- What stands, but for the hart's own. -/
structure SeL (Z : Nat → Prop) (w W : World) (k : Bl) (c : Cf) (cap nl : Nat) (R : Int → List Int) (u : Nat → Bool) (p : Nat → Nat) (P : Nat → Option Addr × Nat) (J : Nat → Lk.JS) : Prop where
  mem : ∃ B T, SeM W k c cap B T u p
  lk : LkAt Z W w.heap.size k.lp k.lmb nl R
  jobs : ∀ i, i < 4 → JobAt W k.jb (i * 4) (.slice (P i).1 (J i).xs.length (P i).2) (J i).t (J i).g (J i).d
  jv : ∀ i, i < 4 → Lk.JvT (J i)
  rows : ∀ i, i < 4 → RowT Z k.jb (SK k) W (P i).1 (P i).2 (J i).xs
  fz : ∀ j, W.frozen? ⟨k.jb, j, none⟩ = false
  bel : Below w.heap.size w W
  inv : Lk.Inv R nl J
  o : Bo k
  zk : ∀ b, SK k b → Z b
  zj : Z k.jb
  w0 : w.heap.size ≤ k.sb ∧ w.heap.size ≤ k.rb ∧ w.heap.size ≤ k.mb
/-- Who is busy, and with what. -/
structure SeI (c : Cf) (u : Nat → Bool) (p : Nat → Nat) (J : Nat → Lk.JS) (L : Nat → List Ak) : Prop where
  idle : ∀ i, i < 4 → u i = false → (J i).t = (J i).xs.length ∧ (J i).g = (J i).xs.length
  need : ∀ i, i < 4 → u i = true → p i < (L i).length ∧ (J i).xs = Srt.set (Sh.needS c ((L i).getD (p i) Ak.zero))
  le : ∀ i, i < 4 → p i ≤ (L i).length
abbrev updB (u : Nat → Bool) (q : Nat) (v : Bool) : Nat → Bool := fun i => if i = q then v else u i
abbrev updP (p : Nat → Nat) (q v : Nat) : Nat → Nat := fun i => if i = q then v else p i
section
variable {c : Cf} {u : Nat → Bool} {p : Nat → Nat} {J : Nat → Lk.JS} {L : Nat → List Ak} {q : Nat}
theorem SeI.begin_ (h : SeI c u p J L) (hp : q < 4 → p q < (L q).length) : SeI c (updB u q true) p (Lk.setJ J q ⟨Srt.set (Sh.needS c ((L q).getD (p q) Ak.zero)), 0, 0, false⟩) L := by
  refine ⟨fun i hi hu => ?_, fun i hi hu => ?_, h.le⟩
  · by_cases e : i = q
    · simp [updB, e] at hu
    · rw [Lk.setJ_other J _ e]; exact h.idle i hi (by simpa [updB, e] using hu)
  · by_cases e : i = q
    · subst e; rw [Lk.setJ_same]; exact ⟨hp hi, rfl⟩
    · rw [Lk.setJ_other J _ e]; exact h.need i hi (by simpa [updB, e] using hu)
theorem SeI.step (h : SeI c u p J L) (hu : u q = true) {s : Lk.JS} (hs : s.xs = (J q).xs) : SeI c u p (Lk.setJ J q s) L := by
  refine ⟨fun i hi hu2 => ?_, fun i hi hu2 => ?_, h.le⟩
  · by_cases e : i = q
    · subst e; rw [hu] at hu2; cases hu2
    · rw [Lk.setJ_other J _ e]; exact h.idle i hi hu2
  · by_cases e : i = q
    · subst e; rw [Lk.setJ_same, hs]; exact h.need i hi hu2
    · rw [Lk.setJ_other J _ e]; exact h.need i hi hu2
theorem SeI.done (h : SeI c u p J L) (hq : q < 4) (hu : u q = true) (ht : (J q).t = (J q).xs.length) (hg : (J q).g = (J q).xs.length) : SeI c (updB u q false) (updP p q (p q + 1)) J L := by
  refine ⟨fun i hi hu2 => ?_, fun i hi hu2 => ?_, fun i hi => ?_⟩
  · by_cases e : i = q
    · subst e; exact ⟨ht, hg⟩
    · exact h.idle i hi (by simpa [updB, e] using hu2)
  · by_cases e : i = q
    · simp [updB, e] at hu2
    · have := h.need i hi (by simpa [updB, e] using hu2)
      simpa [updP, e] using this
  · by_cases e : i = q
    · subst e
      have := (h.need i hq hu).1
      simp [updP]; omega
    · simpa [updP, e] using h.le i hi
end
/-- What stands, with the hart and its ask. -/
structure SeK (Z : Nat → Prop) (w W : World) (k : Bl) (c : Cf) (cap nl : Nat) (R : Int → List Int) (u : Nat → Bool) (p : Nat → Nat) (P : Nat → Option Addr × Nat) (J : Nat → Lk.JS) (hb ab q : Nat) (a : Ak) : Prop where
  l : SeL Z w W k c cap nl R u p P J
  zh : Z hb
  za : Z ab
  h : W.cell? ⟨hb, 0, none⟩ = some (.int .i64 (q : Int))
  a : AkAt W ab a
  lt : k.fb < hb ∧ hb < ab
theorem Bo.fb {k : Bl} (o : Bo k) : ∀ b, SK k b ∨ b = k.jb ∨ b = k.lp ∨ b = k.lmb → b ≤ k.fb := by
  obtain ⟨a1, a2, a3, a4, a5, a6, a7, a8, a9, b1, b2, b3⟩ := o
  rintro b ((rfl | rfl | rfl | rfl | rfl | rfl | rfl | rfl | rfl | rfl) | rfl | rfl | rfl) <;> omega
theorem Bo.jb {k : Bl} (o : Bo k) : ∀ b, SK k b → b ≠ k.jb ∧ b ≠ k.lp ∧ b ≠ k.lmb := by
  obtain ⟨a1, a2, a3, a4, a5, a6, a7, a8, a9, b1, b2, b3⟩ := o
  rintro b (rfl | rfl | rfl | rfl | rfl | rfl | rfl | rfl | rfl | rfl) <;> omega
theorem SC_SK {k : Bl} {b : Nat} (h : SC k b) : SK k b := by
  rcases h with rfl | rfl | rfl | rfl | rfl
  · exact .inl rfl
  · exact .inr (.inr (.inl rfl))
  · exact .inr (.inr (.inr (.inr (.inr (.inr (.inl rfl))))))
  · exact .inr (.inr (.inr (.inr (.inr (.inr (.inr (.inl rfl)))))))
  · exact .inr (.inr (.inr (.inr (.inr (.inl rfl)))))
section
variable {Z Y : Nat → Prop} {w W W' : World} {k : Bl} {c : Cf} {cap nl : Nat} {R : Int → List Int} {u : Nat → Bool} {p : Nat → Nat} {P : Nat → Option Addr × Nat} {J : Nat → Lk.JS} {hb ab q : Nat} {a : Ak}
theorem SeL.jlt (h : SeL Z w W k c cap nl R u p P J) : k.jb < W.heap.size := (h.jobs 0 (by omega)).lt
theorem SeL.more (h : SeL Z w W k c cap nl R u p P J) (hb' : Below W.heap.size W W') : SeL (fun x => Z x ∨ (W.heap.size ≤ x ∧ x < W'.heap.size)) w W' k c cap nl R u p P J := by
  obtain ⟨B, T, m⟩ := h.mem
  exact ⟨⟨B, T, m.low hb'⟩, h.lk.more hb' fun _ hk => hk, fun i hi => (h.jobs i hi).low hb', h.jv, fun i hi => ((h.rows i hi).keep fun b hlt _ _ _ => hb'.block b hlt).more fun _ hk => .inl hk, fun j => (World.frozen?_of_block (w := W) (a := ⟨k.jb, j, none⟩) (hb'.block k.jb h.jlt)).trans (h.fz j),
    h.bel.trans (hb'.mono h.bel.size), h.inv, h.o, fun b hk => .inl (h.zk b hk), .inl h.zj, h.w0⟩
theorem SeL.low (h : SeL Z w W k c cap nl R u p P J) (hb' : Below W.heap.size W W') : SeL Z w W' k c cap nl R u p P J := by
  obtain ⟨B, T, m⟩ := h.mem
  exact ⟨⟨B, T, m.low hb'⟩, h.lk.low hb', fun i hi => (h.jobs i hi).low hb', h.jv, fun i hi => (h.rows i hi).keep fun b hlt _ _ _ => hb'.block b hlt, fun j => (World.frozen?_of_block (w := W) (a := ⟨k.jb, j, none⟩) (hb'.block k.jb h.jlt)).trans (h.fz j),
    h.bel.trans (hb'.mono h.bel.size), h.inv, h.o, h.zk, h.zj, h.w0⟩
/-- A cell of a block that is read by SeM alone is laid. -/
theorem SeL.cell (h : SeL Z w W k c cap nl R u p P J) {b i : Nat} {v : Value} (hb' : SK k b) (hw : w.heap.size ≤ b) {u' : Nat → Bool} {p' : Nat → Nat} (hm : ∀ B T, SeM W k c cap B T u p → SeM (W.setCell ⟨b, i, none⟩ v) k c cap B T u' p') : SeL Z w (W.setCell ⟨b, i, none⟩ v) k c cap nl R u' p' P J := by
  obtain ⟨B, T, m⟩ := h.mem
  have hj := h.o.jb b hb'
  have oth : ∀ x, x ≠ b → (W.setCell ⟨b, i, none⟩ v).heap[x]? = W.heap[x]? := fun x hx => heap_setCell_other W ⟨b, i, none⟩ x _ hx
  exact ⟨⟨B, T, hm B T m⟩, h.lk.far (h.zk b hb') hj.2.1 _, fun x hx => (h.jobs x hx).on (oth _ (Ne.symm hj.1)), h.jv, fun x hx => (h.rows x hx).keep fun y _ _ _ hs => oth y fun e => hs (e ▸ hb'), fun j => (World.frozen?_of_block (w := W) (a := ⟨k.jb, j, none⟩) (oth _ (Ne.symm hj.1))).trans (h.fz j), h.bel.setCell (p := ⟨b, i, none⟩) hw _, h.inv, h.o, h.zk, h.zj, h.w0⟩
theorem SeM.mark {B : List Int} {T : Rv.Tb} (h : SeM W k c cap B T u p) (o : Bo k) (hq : q < 4) (v : Bool) : SeM (W.setCell ⟨k.ub, q, none⟩ (.bool v)) k c cap B T (updB u q v) p := by
  have f : ∀ b, b ≠ k.ub → (W.setCell ⟨k.ub, q, none⟩ (.bool v)).heap[b]? = W.heap[b]? := fun b hb => heap_setCell_other W ⟨k.ub, q, none⟩ b _ hb
  have hu : CsAt (W.setCell ⟨k.ub, q, none⟩ (.bool v)) k.ub 49 (b4V (updB u q v)) := by
    have e := setAn h.busy q (.bool v)
    obtain rfl | rfl | rfl | rfl : q = 0 ∨ q = 1 ∨ q = 2 ∨ q = 3 := by omega
    all_goals exact e
  obtain ⟨a1, a2, a3, a4, a5, a6, a7, a8, a9, b1, b2, b3⟩ := o
  exact ⟨h.sh.keep (f _ (by omega)) (f _ (by omega)) (f _ (by omega)), h.rf.keep (f _ (by omega)), (f _ (by omega)).trans h.x, (f _ (by omega)).trans h.s0, (f _ (by omega)).trans h.l0, (f _ (by omega)).trans h.fi, hu, (f _ (by omega)).trans h.at_⟩
theorem SeM.next {B : List Int} {T : Rv.Tb} (h : SeM W k c cap B T u p) (o : Bo k) (hq : q < 4) (v : Nat) : SeM (W.setCell ⟨k.tb, q, none⟩ (.int .i64 (v : Int))) k c cap B T u (updP p q v) := by
  have f : ∀ b, b ≠ k.tb → (W.setCell ⟨k.tb, q, none⟩ (.int .i64 (v : Int))).heap[b]? = W.heap[b]? := fun b hb => heap_setCell_other W ⟨k.tb, q, none⟩ b _ hb
  have hu : CsAt (W.setCell ⟨k.tb, q, none⟩ (.int .i64 (v : Int))) k.tb 50 (p4V (updP p q v)) := by
    have e := setAn h.at_ q (.int .i64 (v : Int))
    obtain rfl | rfl | rfl | rfl : q = 0 ∨ q = 1 ∨ q = 2 ∨ q = 3 := by omega
    all_goals exact e
  obtain ⟨a1, a2, a3, a4, a5, a6, a7, a8, a9, b1, b2, b3⟩ := o
  exact ⟨h.sh.keep (f _ (by omega)) (f _ (by omega)) (f _ (by omega)), h.rf.keep (f _ (by omega)), (f _ (by omega)).trans h.x, (f _ (by omega)).trans h.s0, (f _ (by omega)).trans h.l0, (f _ (by omega)).trans h.fi, (f _ (by omega)).trans h.busy, hu⟩
theorem SeL.wub (h : SeL Z w W k c cap nl R u p P J) : w.heap.size ≤ k.ub ∧ w.heap.size ≤ k.tb ∧ w.heap.size ≤ k.jb ∧ w.heap.size ≤ k.fb ∧ w.heap.size ≤ k.xb ∧ w.heap.size ≤ k.g := by
  have := h.w0
  obtain ⟨a1, a2, a3, a4, a5, a6, a7, a8, a9, b1, b2, b3⟩ := h.o
  omega
theorem SeL.mark (h : SeL Z w W k c cap nl R u p P J) (hq : q < 4) (v : Bool) : SeL Z w (W.setCell ⟨k.ub, q, none⟩ (.bool v)) k c cap nl R (updB u q v) p P J :=
  h.cell (.inr (.inr (.inr (.inr (.inr (.inr (.inr (.inr (.inl rfl))))))))) h.wub.1 fun _ _ m => m.mark h.o hq v
theorem SeL.next (h : SeL Z w W k c cap nl R u p P J) (hq : q < 4) (v : Nat) : SeL Z w (W.setCell ⟨k.tb, q, none⟩ (.int .i64 (v : Int))) k c cap nl R u (updP p q v) P J :=
  h.cell (.inr (.inr (.inr (.inr (.inr (.inr (.inr (.inr (.inr rfl))))))))) h.wub.2.1 fun _ _ m => m.next h.o hq v
/-- A job, laid. -/
theorem SeL.lay (h : SeL Z w W k c cap nl R u p P J) (hq : q < 4) {pp : Option Addr} {cp : Nat} {xs : List Int} (hs : Lk.JvT ⟨xs, 0, 0, false⟩) (hr : RowT Z k.jb (SK k) W pp cp xs) (hi : Lk.Inv R nl (Lk.setJ J q ⟨xs, 0, 0, false⟩)) :
    SeL Z w (W.setCells k.jb (q * 4) [.slice pp xs.length cp, .int .i64 0, .int .i64 0, .bool false]) k c cap nl R u p (fun i => if i = q then (pp, cp) else P i) (Lk.setJ J q ⟨xs, 0, 0, false⟩) := by
  obtain ⟨B, T, m⟩ := h.mem
  have e : W.setCells k.jb (q * 4) [.slice pp xs.length cp, .int .i64 0, .int .i64 0, .bool false] = (((W.setCell ⟨k.jb, q * 4, none⟩ (.slice pp xs.length cp)).setCell ⟨k.jb, q * 4 + 1, none⟩ (.int .i64 0)).setCell ⟨k.jb, q * 4 + 2, none⟩ (.int .i64 0)).setCell ⟨k.jb, q * 4 + 3, none⟩ (.bool false) := rfl
  rw [e]
  have oth : ∀ c, c ≠ k.jb → ((((W.setCell ⟨k.jb, q * 4, none⟩ (.slice pp xs.length cp)).setCell ⟨k.jb, q * 4 + 1, none⟩ (.int .i64 0)).setCell ⟨k.jb, q * 4 + 2, none⟩ (.int .i64 0)).setCell ⟨k.jb, q * 4 + 3, none⟩ (.bool false)).heap[c]? = W.heap[c]? := fun c hc =>
    (((heap_setCell_other _ ⟨k.jb, q * 4 + 3, none⟩ c _ hc).trans (heap_setCell_other _ ⟨k.jb, q * 4 + 2, none⟩ c _ hc)).trans (heap_setCell_other _ ⟨k.jb, q * 4 + 1, none⟩ c _ hc)).trans (heap_setCell_other W ⟨k.jb, q * 4, none⟩ c _ hc)
  have fr : ∀ j, ((((W.setCell ⟨k.jb, q * 4, none⟩ (.slice pp xs.length cp)).setCell ⟨k.jb, q * 4 + 1, none⟩ (.int .i64 0)).setCell ⟨k.jb, q * 4 + 2, none⟩ (.int .i64 0)).setCell ⟨k.jb, q * 4 + 3, none⟩ (.bool false)).frozen? ⟨k.jb, j, none⟩ = false := fun j => by
    rw [World.frozen?_setCell, World.frozen?_setCell, World.frozen?_setCell, World.frozen?_setCell]; exact h.fz j
  have hwj := h.wub.2.2.1
  have hlj : k.jb ≠ k.lp := by obtain ⟨a1, a2, a3, a4, a5, a6, a7, a8, a9, b1, b2, b3⟩ := h.o; omega
  have hk0 := h.jobs q hq
  refine ⟨⟨B, T, m.keep fun b hk => oth b (h.o.jb b hk).1⟩, (((h.lk.far h.zj hlj _).far h.zj hlj _).far h.zj hlj _).far h.zj hlj _, fun i hi' => ?_, fun i hi' => ?_, fun i hi' => ?_, fr,
    (((h.bel.setCell (p := ⟨k.jb, q * 4, none⟩) hwj _).setCell (p := ⟨k.jb, q * 4 + 1, none⟩) hwj _).setCell (p := ⟨k.jb, q * 4 + 2, none⟩) hwj _).setCell (p := ⟨k.jb, q * 4 + 3, none⟩) hwj _, hi, h.o, h.zk, h.zj, h.w0⟩
  · by_cases ei : i = q
    · subst ei
      rw [Lk.setJ_same]
      simp only [if_true]
      refine ⟨?_, ?_, ?_, ?_, fr _, fr _, fr _⟩
      · rw [cell_ne (by omega), cell_ne (by omega), cell_ne (by omega)]
        exact cell_eq hk0.c0 _
      · rw [cell_ne (by omega), cell_ne (by omega)]
        exact cell_eq (by rw [cell_ne (by omega)]; exact hk0.c1) _
      · rw [cell_ne (by omega)]
        exact cell_eq (by rw [cell_ne (by omega), cell_ne (by omega)]; exact hk0.c2) _
      · exact cell_eq (by rw [cell_ne (by omega), cell_ne (by omega), cell_ne (by omega)]; exact hk0.c3) _
    · rw [Lk.setJ_other J _ ei]
      simp only [if_neg ei]
      have hi0 := h.jobs i hi'
      refine ⟨?_, ?_, ?_, ?_, fr _, fr _, fr _⟩
      · rw [cell_ne (by omega), cell_ne (by omega), cell_ne (by omega), cell_ne (by omega)]; exact hi0.c0
      · rw [cell_ne (by omega), cell_ne (by omega), cell_ne (by omega), cell_ne (by omega)]; exact hi0.c1
      · rw [cell_ne (by omega), cell_ne (by omega), cell_ne (by omega), cell_ne (by omega)]; exact hi0.c2
      · rw [cell_ne (by omega), cell_ne (by omega), cell_ne (by omega), cell_ne (by omega)]; exact hi0.c3
  · by_cases ei : i = q
    · subst ei; rw [Lk.setJ_same]; exact hs
    · rw [Lk.setJ_other J _ ei]; exact h.jv i hi'
  · by_cases ei : i = q
    · subst ei; rw [Lk.setJ_same]; simp only [if_true]; exact hr.keep fun b _ _ hb _ => oth b hb
    · rw [Lk.setJ_other J _ ei]; simp only [if_neg ei]; exact (h.rows i hi').keep fun b _ _ hb _ => oth b hb
theorem SeL.there (h : SeL Z w W k c cap nl R u p P J) (hq : q < 4) : W.there k.jb (q * 4) 4 := fun j hj => by
  have hjq := h.jobs q hq
  refine ⟨?_, h.fz _⟩
  obtain rfl | rfl | rfl | rfl : j = 0 ∨ j = 1 ∨ j = 2 ∨ j = 3 := by omega
  · rw [Nat.add_zero, hjq.c0]; rfl
  · rw [hjq.c1]; rfl
  · rw [hjq.c2]; rfl
  · rw [hjq.c3]; rfl
theorem SeL.lts (h : SeL Z w W k c cap nl R u p P J) : k.fb < W.heap.size := by
  obtain ⟨B, T, m⟩ := h.mem
  exact m.fi.lt
theorem SeL.busy (h : SeL Z w W k c cap nl R u p P J) (hq : q < 4) : W.cell? ⟨k.ub, q, none⟩ = some (.bool (u q)) ∧ W.frozen? ⟨k.ub, q, none⟩ = false := by
  obtain ⟨B, T, m⟩ := h.mem
  refine ⟨?_, m.busy.frozen q⟩
  rw [m.busy.cell]
  obtain rfl | rfl | rfl | rfl : q = 0 ∨ q = 1 ∨ q = 2 ∨ q = 3 := by omega
  all_goals rfl
theorem SeL.where_ (h : SeL Z w W k c cap nl R u p P J) (hq : q < 4) : W.cell? ⟨k.tb, q, none⟩ = some (.int .i64 (p q : Nat)) ∧ W.frozen? ⟨k.tb, q, none⟩ = false := by
  obtain ⟨B, T, m⟩ := h.mem
  refine ⟨?_, m.at_.frozen q⟩
  rw [m.at_.cell]
  obtain rfl | rfl | rfl | rfl : q = 0 ∨ q = 1 ∨ q = 2 ∨ q = 3 := by omega
  all_goals rfl
theorem SeK.low (h : SeK Z w W k c cap nl R u p P J hb ab q a) (hb' : Below W.heap.size W W') : SeK Z w W' k c cap nl R u p P J hb ab q a := ⟨h.l.low hb', h.zh, h.za, cell_low h.h hb', h.a.low hb', h.lt⟩
theorem SeK.more (h : SeK Z w W k c cap nl R u p P J hb ab q a) (hb' : Below W.heap.size W W') : SeK (fun x => Z x ∨ (W.heap.size ≤ x ∧ x < W'.heap.size)) w W' k c cap nl R u p P J hb ab q a := ⟨h.l.more hb', .inl h.zh, .inl h.za, cell_low h.h hb', h.a.low hb', h.lt⟩
theorem SeK.mark (h : SeK Z w W k c cap nl R u p P J hb ab q a) (hq : q < 4) (v : Bool) : SeK Z w (W.setCell ⟨k.ub, q, none⟩ (.bool v)) k c cap nl R (updB u q v) p P J hb ab q a :=
  have n1 : k.ub < k.fb := by obtain ⟨a1, a2, a3, a4, a5, a6, a7, a8, a9, b1, b2, b3⟩ := h.l.o; omega
  ⟨h.l.mark hq v, h.zh, h.za, cell_far h.h (by have := h.lt; omega) _, ⟨h.a.cs.far (by have := h.lt; omega) _⟩, h.lt⟩
theorem SeK.next (h : SeK Z w W k c cap nl R u p P J hb ab q a) (hq : q < 4) (v : Nat) : SeK Z w (W.setCell ⟨k.tb, q, none⟩ (.int .i64 (v : Int))) k c cap nl R u (updP p q v) P J hb ab q a :=
  have n1 : k.tb < k.fb := by obtain ⟨a1, a2, a3, a4, a5, a6, a7, a8, a9, b1, b2, b3⟩ := h.l.o; omega
  ⟨h.l.next hq v, h.zh, h.za, cell_far h.h (by have := h.lt; omega) _, ⟨h.a.cs.far (by have := h.lt; omega) _⟩, h.lt⟩
theorem SeK.lay (h : SeK Z w W k c cap nl R u p P J hb ab q a) (hq : q < 4) {pp : Option Addr} {cp : Nat} {xs : List Int} (hs : Lk.JvT ⟨xs, 0, 0, false⟩) (hr : RowT Z k.jb (SK k) W pp cp xs) (hi : Lk.Inv R nl (Lk.setJ J q ⟨xs, 0, 0, false⟩)) :
    SeK Z w (W.setCells k.jb (q * 4) [.slice pp xs.length cp, .int .i64 0, .int .i64 0, .bool false]) k c cap nl R u p (fun i => if i = q then (pp, cp) else P i) (Lk.setJ J q ⟨xs, 0, 0, false⟩) hb ab q a := by
  have e : W.setCells k.jb (q * 4) [.slice pp xs.length cp, .int .i64 0, .int .i64 0, .bool false] = (((W.setCell ⟨k.jb, q * 4, none⟩ (.slice pp xs.length cp)).setCell ⟨k.jb, q * 4 + 1, none⟩ (.int .i64 0)).setCell ⟨k.jb, q * 4 + 2, none⟩ (.int .i64 0)).setCell ⟨k.jb, q * 4 + 3, none⟩ (.bool false) := rfl
  have hjf := h.l.o.fb k.jb (.inr (.inl rfl))
  have n1 : hb ≠ k.jb := by have := h.lt; omega
  have n2 : ab ≠ k.jb := by have := h.lt; omega
  refine ⟨h.l.lay hq hs hr hi, h.zh, h.za, ?_, ?_, h.lt⟩
  · rw [e]
    exact cell_far (cell_far (cell_far (cell_far h.h n1 _) n1 _) n1 _) n1 _
  · rw [e]
    exact ⟨(((h.a.cs.far n2 _).far n2 _).far n2 _).far n2 _⟩
/-- What a job's step keeps. -/
structure SeE (Z : Nat → Prop) (V : World) (k : Bl) (c : Cf) (cap : Nat) (u : Nat → Bool) (p : Nat → Nat) (P : Nat → Option Addr × Nat) (J : Nat → Lk.JS) (hb ab q : Nat) (a : Ak) : Prop where
  mem : ∃ B T, SeM V k c cap B T u p
  h : V.cell? ⟨hb, 0, none⟩ = some (.int .i64 (q : Int))
  a : AkAt V ab a
  oth : ∀ i, i < 4 → i ≠ q → JobAt V k.jb (i * 4) (.slice (P i).1 (J i).xs.length (P i).2) (J i).t (J i).g (J i).d
  rows : ∀ i, i < 4 → RowT Z k.jb (SK k) V (P i).1 (P i).2 (J i).xs
  fz : ∀ j, V.frozen? ⟨k.jb, j, none⟩ = false
  lt : k.jb < V.heap.size
theorem SeK.step_c (h : SeK Z w W k c cap nl R u p P J hb ab q a) (hq : q < 4) (ha : a.In) (hxs : (J q).xs = Srt.set (Sh.needS c a)) :
    Calls Tryz.prog 11 #[.pointer (some ⟨k.jb, q * 4, none⟩), .pointer (some ⟨k.lp, 0, none⟩), .int .i64 (q : Int), .func (.func 12) #[] #[.pointer (some ⟨k.bs, 0, none⟩), .pointer (some ⟨ab, 0, none⟩), .pointer (some ⟨k.lx, 0, none⟩), .pointer (some ⟨k.fb, 0, none⟩), .pointer (some ⟨hb, 0, none⟩), .pointer (some ⟨k.xb, 0, none⟩)]] W fun e w' =>
      ∃ r, e = .returned (.int .i64 r) ∧ SeK Z w w' k c cap nl (Lk.stR R nl (q : Int) (J q)) u p P (Lk.setJ J q (Lk.stJ R nl (q : Int) (J q))) hb ab q a := by
  have hof := h.l.o.fb
  have hoj := h.l.o.jb
  have hlt := h.lt
  have hlj : k.jb ≠ k.lp := by obtain ⟨a1, a2, a3, a4, a5, a6, a7, a8, a9, b1, b2, b3⟩ := h.l.o; omega
  have hwj := h.l.wub
  have hwz := h.l.w0
  have nhj : hb ≠ k.jb := by have := hof k.jb (.inr (.inl rfl)); omega
  have naj : ab ≠ k.jb := by have := hof k.jb (.inr (.inl rfl)); omega
  have hE : SeE Z W k c cap u p P J hb ab q a := ⟨h.l.mem, h.h, h.a, fun i hi _ => h.l.jobs i hi, h.l.rows, h.l.fz, h.l.jlt⟩
  refine (gstep2_c k.jb (q * 4) (P q).1 (P q).2 w.heap.size k.lp k.lmb nl R (J q) (q : Int) W 12 _ (fun V => SeE Z V k c cap u p P J hb ab q a) (fun V => SeE Z V k c cap u p P J hb ab q a)
    h.l.lk (h.l.jobs q hq) (h.l.jv q hq) h.l.zj hlj hwj.2.2.1 (h.l.rows q hq).v (h.l.rows q hq).f (fun pb po e => ((h.l.rows q hq).a pb po e).2.1) hE ?_ ?_ enters_serial ?_).mono ?_
  · intro x v hx hv
    obtain ⟨B, T, m⟩ := hx.mem
    have hlv : k.jb < v.heap.size := by
      obtain ⟨i, hi, hne⟩ : ∃ i, i < 4 ∧ i ≠ q := by
        by_cases e : q = 0
        · exact ⟨1, by omega, by omega⟩
        · exact ⟨0, by omega, fun h => e h.symm⟩
      exact (job_oth (hx.oth i hi hne) hv (Ne.symm hne)).lt
    exact ⟨⟨B, T, m.keep fun b hk => hv.blk b (h.l.zk b hk) (hoj b hk).1⟩, (World.cell?_of_block (w := x) (a := ⟨hb, 0, none⟩) (hv.blk hb h.zh nhj)).trans hx.h, ⟨(hv.blk ab h.za naj).trans hx.a.cs⟩, fun i hi hne => job_oth (hx.oth i hi hne) hv (Ne.symm hne), fun i hi => (hx.rows i hi).keep fun b _ hzb hbj _ => hv.blk b hzb hbj, fun j => (hv.froz j).trans (hx.fz j), hlv⟩
  · intro x v hx hv
    obtain ⟨B, T, m⟩ := hx.mem
    exact ⟨⟨B, T, m.low hv⟩, cell_low hx.h hv, hx.a.low hv, fun i hi hne => (hx.oth i hi hne).low hv, fun i hi => (hx.rows i hi).keep fun b hb _ _ _ => hv.block b hb, fun j => (World.frozen?_of_block (w := x) (a := ⟨k.jb, j, none⟩) (hv.block k.jb hx.lt)).trans (hx.fz j), Nat.lt_of_lt_of_le hx.lt hv.size⟩
  · intro hst V hx hl hj hbl
    obtain ⟨B, T, m⟩ := hx.mem
    have hmine := h.l.inv.all_mine (show q < 8 by omega) hst
    refine (serial1_c ha h.l.o m hl hx.h hx.a (h.l.zk _ (.inr (.inr (.inr (.inr (.inr (.inl rfl))))))) (fun b hb2 => by
      have := hof b (.inl (SC_SK hb2))
      omega) (fun y hy => hmine y (by rw [hxs]; exact (Srt.set_mem _ _).2 hy))).mono ?_
    rintro e w' ⟨rfl, ⟨B', T', m'⟩, hbut⟩
    have njb : ¬ SC k k.jb := fun hs => (hoj k.jb (SC_SK hs)).1 rfl
    have nhb : ¬ SC k hb := fun hs => by have := hof hb (.inl (SC_SK hs)); omega
    have nab : ¬ SC k ab := fun hs => by have := hof ab (.inl (SC_SK hs)); omega
    have hjb := hbut.block k.jb hx.lt njb
    refine ⟨rfl, ⟨⟨B', T', m'⟩, (World.cell?_of_block (w := V) (a := ⟨hb, 0, none⟩) (hbut.block hb (World.block_lt_of_cell? _ _ hx.h) nhb)).trans hx.h, ⟨(hbut.block ab hx.a.cs.lt nab).trans hx.a.cs⟩, fun i hi hne => (hx.oth i hi hne).on hjb, fun i hi => (hx.rows i hi).keep fun b hb _ _ hs => hbut.block b hb fun e => hs (SC_SK e), fun j => (World.frozen?_of_block (w := V) (a := ⟨k.jb, j, none⟩) hjb).trans (hx.fz j), Nat.lt_of_lt_of_le hx.lt hbut.size⟩,
      hl.but hbut (fun b hs => ⟨h.l.zk b (SC_SK hs), (hoj b (SC_SK hs)).2.1⟩), hj.on hjb, hbl.trans (hbut.below (by have := hl.b0; have := hl.lt; omega) fun b hs => ?_)⟩
    rcases hs with rfl | rfl | rfl | rfl | rfl <;> omega
  · rintro e w' ⟨r, rfl, hg⟩
    have he : SeE Z w' k c cap u p P J hb ab q a := by
      have := hg.env
      split at this
      · exact this
      · exact this
    refine ⟨r, rfl, ⟨he.mem, hg.lk, fun i hi => ?_, fun i hi => ?_, fun i hi => ?_, he.fz, h.l.bel.trans hg.bel, h.l.inv.step (show q < 8 by omega), h.l.o, h.l.zk, h.l.zj, h.l.w0⟩, h.zh, h.za, he.h, he.a, h.lt⟩
    · by_cases ei : i = q
      · subst ei
        rw [Lk.setJ_same]
        exact hg.job
      · rw [Lk.setJ_other J _ ei]; exact he.oth i hi ei
    · by_cases ei : i = q
      · subst ei; rw [Lk.setJ_same]; exact (h.l.jv i hi).step R nl (i : Int)
      · rw [Lk.setJ_other J _ ei]; exact h.l.jv i hi
    · by_cases ei : i = q
      · subst ei; rw [Lk.setJ_same, Lk.stJ_needT]; exact he.rows i hi
      · rw [Lk.setJ_other J _ ei]; exact he.rows i hi
end
end Go.Proofs.YtjeolfcefeglpabGreat
set_option maxRecDepth 20000
namespace Go.Proofs.YtjeolfcefeglpabGreat
open Go.ChangeShapes Go.WideShapes Go.ChangeAt Go.RowKit Wd

abbrev T64b : TypeId := 72
/-- The first k bytes of a line, noughts behind them. -/
def pline (B : List Int) (i k : Nat) : List Int := Rm.mk 64 fun j => if j < k then B.getD (64 * i + j) 0 else 0
theorem pline_len (B : List Int) (i k : Nat) : (pline B i k).length = 64 := Rm.mk_len _ _
theorem pline_set (B : List Int) (i k : Nat) (hk : k < 64) : (pline B i k).set k (B.getD (64 * i + k) 0) = pline B i (k + 1) := by
  refine Rm.ext (by rw [List.length_set, pline_len, pline_len]) fun j hj => ?_
  have hj' : j < 64 := by simpa [pline_len] using hj
  have e1 : (pline B i (k + 1)).getD j 0 = if j < k + 1 then B.getD (64 * i + j) 0 else 0 := Rm.mk_get _ _ _ hj'
  have e2 : (pline B i k).getD j 0 = if j < k then B.getD (64 * i + j) 0 else 0 := Rm.mk_get _ _ _ hj'
  by_cases e : k = j
  · subst e
    rw [e1, if_pos (by omega), List.getD, List.getElem?_set_self (by rw [pline_len]; exact hk)]
    rfl
  · rw [List.getD, List.getElem?_set_ne e]
    have e2' : ((pline B i k)[j]?).getD 0 = if j < k then B.getD (64 * i + j) 0 else 0 := e2
    rw [e2', e1]
    by_cases h : j < k
    · rw [if_pos h, if_pos (by omega)]
    · rw [if_neg h, if_neg (by omega)]
theorem pline_64 (B : List Int) (i : Nat) : pline B i 64 = Rm.row B i := by
  refine Rm.ext (by rw [pline_len]; exact (Rm.mk_len _ _).symm) fun j hj => ?_
  have hj' : j < 64 := by simpa [pline_len] using hj
  rw [Rm.row_get _ _ _ hj']
  exact (Rm.mk_get _ _ _ hj').trans (if_pos hj')
theorem pline_0 (B : List Int) (i : Nat) : aV .u8 (pline B i 0) = aV .u8 (List.replicate 64 0) := by
  refine congrArg (aV .u8) (Rm.ext (by rw [pline_len]; simp) fun j hj => ?_)
  have hj' : j < 64 := by simpa [pline_len] using hj
  have e : (pline B i 0).getD j 0 = if j < 0 then B.getD (64 * i + j) 0 else 0 := Rm.mk_get _ _ _ hj'
  rw [e, if_neg (by omega), List.getD, List.getElem?_replicate, if_pos hj']
  rfl
def z64 : Array Value := aV .u8 (List.replicate 64 0)
theorem zero_64 (W : World) : (zeroValue T64b).run Tryz.prog W = .ok (.agg z64) W := by kernel_rfl
theorem info_64 : (Tryz.prog.info? T64b).map (·.size) = some 64 := by kernel_rfl
theorem i64b {l : List Int} (h : l.length = 64) : (Tryz.prog.info? T64b).map (·.size) = some (aV .u8 l).size := by rw [aV_size, h]; exact info_64
/-- What stands while a line is gathered. -/
structure TlAt (w W : World) (c : Cf) (g n cap : Nat) (t : TypeId) (B : List Int) (T : Rv.Tb) (l : List Int) : Prop where
  x : CsAt W w.heap.size SXT (sxT c g n cap T)
  z : RowAt .u8 W (w.heap.size + 1) T64b (List.replicate 64 0)
  o : RowAt .u8 W (w.heap.size + 2) T64b l
  r : RefAt W g t n B
  bel : Below w.heap.size w W
  lt : g < w.heap.size
theorem tl_new {w : World} {c : Cf} {g n cap : Nat} {t : TypeId} {B : List Int} {T : Rv.Tb} (hr : RefAt w g t n B) (i : Nat) : TlAt w (((w.alloc (.cells (sxT c g n cap T) SXT)).alloc (.cells z64 T64b)).alloc (.cells z64 T64b)) c g n cap t B T (pline B i 0) := by
  have h1 := box_below w (sxT c g n cap T) SXT
  have h2 := box_below (w.alloc (.cells (sxT c g n cap T) SXT)) z64 T64b
  have h3 := box_below ((w.alloc (.cells (sxT c g n cap T) SXT)).alloc (.cells z64 T64b)) z64 T64b
  have e1 : (w.alloc (.cells (sxT c g n cap T) SXT)).heap.size = w.heap.size + 1 := by simp
  have e2 : ((w.alloc (.cells (sxT c g n cap T) SXT)).alloc (.cells z64 T64b)).heap.size = w.heap.size + 2 := by simp
  have h12 := h1.trans (h2.mono h1.size)
  refine ⟨((CsAt.new w SXT _).low h2).low h3, ?_, ?_, ((hr.low h1).low h2).low h3, h12.trans (h3.mono h12.size), hr.lt⟩
  · have := (CsAt.new (w.alloc (.cells (sxT c g n cap T) SXT)) T64b z64).low h3
    rw [e1] at this
    exact this
  · have := CsAt.new ((w.alloc (.cells (sxT c g n cap T) SXT)).alloc (.cells z64 T64b)) T64b z64
    rw [e2] at this
    unfold RowAt
    rw [pline_0]
    exact this
set_option maxRecDepth 100000 in
set_option maxHeartbeats 2000000 in
theorem tline_c (c : Cf) (g n cap : Nat) (T : Rv.Tb) {t : TypeId} {B : List Int} (i : Nat) (hi : i < n) (w : World) (hr : RefAt w g t n B) :
    Calls Tryz.prog 20 #[.agg (sxT c g n cap T), .int .i64 (i : Int)] w fun e w' => e = .returned (.agg (aV .u8 (Rm.row B i))) ∧ Below w.heap.size w w' := by
  have HS := Lib.hid (tl_new (c := c) (cap := cap) (T := T) hr i)
  have hn := hr.n1
  have hz := zero_64
  have HE := Lib.hid (pline_64 B i)
  rw [← HE.out]
  clear hr
  go_enter Tryz.func20, Tryz.ntmps20
  go_upto_region 2 with fail
  generalize ((w.alloc (.cells (sxT c g n cap T) SXT)).alloc (.cells z64 T64b)).alloc (.cells z64 T64b) = w1 at *
  clear hz
  go_wp2_with fail
  go_loopw [6] (fun iv wr => ∃ k : Nat, k ≤ 64 ∧ iv = .int .i64 (k : Int) ∧ TlAt w wr c g n cap t B T (pline B i k)) (fun iv _ => 64 - (intOf iv).toNat)
  case atStart => exact ⟨0, by omega, rfl, HS.out⟩
  case round =>
    obtain ⟨k, hk, rfl, hs⟩ := hrel
    have HR := Lib.hid hs
    clear hs HS
    by_cases hlt : k < 64
    · have e0 : decide ((k : Int) < 64) = true := by simp; omega
      have c4 : wr.cell? ⟨w.heap.size, 4, none⟩ = some (.slice (some ⟨g, 0, none⟩) (64 * n) cap) := HR.out.x.cell 4
      have cb := HR.out.r.cell (64 * i + k) (by omega)
      have co := HR.out.o.cell k (by rw [pline_len]; exact hlt)
      have fo := HR.out.o.frozen k
      have hrow := HR.out.o.set k (B.getD (64 * i + k) 0)
      rw [pline_set B i k hlt] at hrow
      have HN := Lib.hid (show TlAt w (wr.setCell ⟨w.heap.size + 2, k, none⟩ (.int .u8 (B.getD (64 * i + k) 0))) c g n cap t B T (pline B i (k + 1)) from
        ⟨HR.out.x.far (by omega) _, HR.out.z.far (by omega) _, hrow, HR.out.r.only (b := w.heap.size + 2) ⟨rfl, rfl, rfl, by simp, fun b _ hne => heap_setCell_other wr ⟨w.heap.size + 2, k, none⟩ b _ hne⟩ (by have := HR.out.lt; omega), HR.out.bel.setCell (p := ⟨w.heap.size + 2, k, none⟩) (by show w.heap.size ≤ w.heap.size + 2; omega) _, HR.out.lt⟩)
      have hw1 : IntKind.i64.wrap (64 * (i : Int)) = 64 * (i : Int) := by rw [IntKind.wrap_i64]; omega
      have hw2 : IntKind.i64.wrap (64 * (i : Int) + (k : Int)) = 64 * (i : Int) + (k : Int) := by rw [IntKind.wrap_i64]; omega
      have hb1 : (k : Int) < 64 := by omega
      have hb2 : 64 * (i : Int) + (k : Int) < 64 * (n : Int) := by omega
      have hb3 : 0 ≤ 64 * (i : Int) + (k : Int) := by omega
      have htn : (64 * (i : Int) + (k : Int)).toNat = 64 * i + k := by omega
      clear hrow HR
      generalize B.getD (64 * i + k) 0 = z at *
      generalize (pline B i k).getD k 0 = zo at *
      go_wp2_with fail
      go_roundw
      case rel => exact ⟨k + 1, by omega, by go_num, HN.out⟩
      case measure => simp [intOf]; omega
    · obtain rfl : k = 64 := by omega
      have e0 : decide (((64 : Nat) : Int) < 64) = false := by decide
      rw [show ((64 : Nat) : Int) = 64 from rfl] at e0 ⊢
      go_wp2_with (first | (refine wpList_load_row rfl T64b _ rfl (w.heap.size + 2) rfl T64b (aV .u8 (pline B i 64)) (0, 0) _ HR.out.o Tryz.underlying72 rfl (i64b (pline_len _ _ _)) ?_) | (refine wpList_store_row rfl T64b _ _ rfl (w.heap.size + 1) (aV .u8 (pline B i 64)) rfl rfl T64b (aV .u8 (List.replicate 64 0)) HR.out.z (i64b (pline_len _ _ _)) (by rw [aV_size, aV_size, pline_len]; simp) (aV_one _ _) ?_))
      exact bodyPost_ret (results_cell_row Tryz.results20 _ _ (w.heap.size + 1) T64b (aV .u8 (pline B i 64)) (0, 0) _ rfl (HR.out.z.row _) Tryz.underlying72 rfl (i64b (pline_len _ _ _))) rfl ⟨rfl, below_setRow HR.out.bel (by omega) _⟩
end Go.Proofs.YtjeolfcefeglpabGreat
set_option maxRecDepth 20000
namespace Go.Proofs.YtjeolfcefeglpabGreat
open Go.ChangeShapes Go.WideShapes Go.ChangeAt Go.RowKit

/-- Integers that came in. -/
structure Nums (k : IntKind) (w : World) (ao : Option Addr) (n : Nat) (l : List Int) : Prop where
  len : l.length = n
  max : n ≤ 9223372036854775807
  each : ∀ x ∈ l, (Lit.int k x).wf = true
  vw : Vw w ao (l.map (Value.int k))
theorem Nums.low {k : IntKind} {w W : World} {ao : Option Addr} {n : Nat} {l : List Int} (h : Nums k w ao n l) (hb : Below w.heap.size w W) : Nums k W ao n l := ⟨h.len, h.max, h.each, h.vw.low hb⟩
theorem open_nums {H : Type} {enc : TypeId × Value → H} {w : World} {r : Reach} {b0 base : Nat} {spare : Nat → Bool} {held : Bool} {t e : TypeId} {k : IntKind} {v : Value} {d : DataW H} {ps : List MemPlace}
    (ht : Tryz.prog.underlying t = some (.slice e)) (he : Tryz.prog.underlying e = some (.int k)) (hce : Tryz.prog.cellsOf e = 1)
    (hval : Value.okWide Tryz.prog w r b0 t v) (hd : DataW.Trod enc Tryz.prog w base spare held t v d ps) : ∃ p n cap l, v = .slice p n cap ∧ Nums k w p n l := by
  obtain ⟨ao, n, cap, rfl⟩ := okWide_slice ht hval
  obtain ⟨fuel, hf⟩ := hd
  rcases open_ints ht he hce hf with ⟨hcs, _⟩ | ⟨a, len, cap', zs, hcs, hb, hl, hm, hz, -, hc, hw⟩
  · simp [Value.cells] at hcs
    obtain ⟨rfl, rfl, rfl⟩ := hcs
    exact ⟨_, _, _, [], rfl, rfl, by omega, fun X hX => absurd hX (by simp), .inl rfl⟩
  · simp [Value.cells] at hcs
    obtain ⟨rfl, rfl, rfl⟩ := hcs
    have hzn : n ≤ zs.length := by rw [hz]; split <;> omega
    refine ⟨_, _, _, zs.take n, rfl, by simp; omega, by unfold maxLen at hm; omega, fun x hx => hw x (List.mem_of_mem_take hx), ?_⟩
    by_cases hn0 : n = 0
    · exact .inl (by subst hn0; simp)
    · have hsp : a.spot = none := by
        have := World.cell?_spot (hc 0 (by omega))
        simpa [Addr.add] using this
      obtain ⟨b, off, sp⟩ := a
      simp only at hsp
      subst hsp
      refine .inr ⟨b, off, rfl, ?_, fun j u hj => ?_⟩
      · have h0 := hc 0 (by omega)
        rw [add_plain] at h0
        exact block_lt_of_cell h0
      · have hjl := (List.getElem?_eq_some_iff.1 hj).1
        rw [List.length_map, List.length_take] at hjl
        have h1 := hc j (by omega)
        rw [add_plain] at h1
        rw [h1, ← hj, List.getElem?_map, List.getElem?_take, if_pos (by omega), List.getD, List.getElem?_eq_getElem (by omega)]
        rfl
end Go.Proofs.YtjeolfcefeglpabGreat
