/-
  Contracts of locks.New, Take.
-/
import Derived.Test.YtgegahnjhaldeaaLkF
namespace Go.Proofs.Ytgegahnjhaldeaa
open Go.ChangeShapes Go.WideShapes Go.ChangeAt Go.RowKit
variable {Z : Nat → Prop}

theorem FitsL.put {D : DataW Unit} {n : Nat} {hs : Int → Hdr} {R : Int → List Int} (h : FitsL D n hs R) (ht : Maps.Tidy D) {i : Int} (hi : InI i) (h0 : 0 ≤ i) (h1 : i < n) (_hn : n ≤ 128) (x : Hdr) {l : List Int} (hl : l ≠ []) :
    FitsL (D.put (kL i) (hdD x)) n (fun j => if j = i then x else hs j) (Lk.upd R i l) := by
  have hne : ∀ j, j ≠ i → kL j ≠ kL i := fun j hji e => hji (kL_inj e)
  refine ⟨fun j hj => ?_, fun j hj => ?_, ?_⟩
  · by_cases e : j = i
    · subst e; rw [Maps.atKey_put_same ht.isMap (kL_key _ hi), if_pos rfl]
    · rw [Maps.atKey_put_other (hne j e), if_neg e, h.at_ j hj]
  · by_cases e : j = i
    · subst e; rw [Maps.has_put_same ht.isMap (kL_key _ hi), Lk.upd_same]; simp [hl]
    · rw [Maps.has_put_other (hne j e), Lk.upd_other R l e, h.has j hj]
  · obtain ⟨k, rfl⟩ := Int.eq_ofNat_of_zero_le h0
    have c := Lk.cnt_upd R k l n (by omega)
    rw [Maps.size_put ht, h.has _ hi, h.size]
    rw [if_neg hl] at c
    by_cases e : R k = []
    · rw [if_pos e] at c
      simp [e]
      omega
    · rw [if_neg e] at c
      simp [e]
      omega
/-- Locks of which row i is about to be replaced in the map. -/
structure LkMid (Z : Nat → Prop) (w : World) (base lp mb n : Nat) (R : Int → List Int) (i : Int) (x : Hdr) (l : List Int) : Prop where
  ok : Lk.Ok R n
  n0 : 1 ≤ n
  n1 : n ≤ 128
  c0 : w.cell? ⟨lp, 0, none⟩ = some (.int .i64 (n : Int))
  c1 : w.cell? ⟨lp, 1, none⟩ = some (.map (some mb))
  b0 : base ≤ lp
  b1 : base ≤ mb
  lt : lp < w.heap.size
  ne : lp ≠ mb
  flt : ∀ k, Z k → k < w.heap.size ∧ k ≠ mb
  new : Rw w base x l
  full : l ≠ []
  own : ∃ D hs, w.ownsMap Try.prog KI rowElem mb (Maps.size D) D ∧ FitsL D n hs R ∧ (∀ j, InI j → j ≠ i → Rw w base (hs j) (R j)) ∧ (∀ j b o m c, InI j → hs j = some (b, o, m, c) → b ≠ lp ∧ b ≠ mb ∧ ¬ Z b) ∧
    (∀ i j b o m c o' m' c', InI i → InI j → hs i = some (b, o, m, c) → hs j = some (b, o', m', c') → i = j) ∧ (∀ b o m c, x = some (b, o, m, c) → b ≠ lp ∧ b ≠ mb ∧ ¬ Z b) ∧
    ∀ j b o m c o' m' c', InI j → j ≠ i → hs j = some (b, o, m, c) → x ≠ some (b, o', m', c')
theorem LkMid.size {w : World} {base lp mb n : Nat} {R : Int → List Int} {i : Int} {x : Hdr} {l : List Int} (_h : LkMid Z w base lp mb n R i x l) {D : DataW Unit} {hs : Int → Hdr} (hF : FitsL D n hs R) (hn : n ≤ 128) : Maps.size D < maxLen := by
  have := Lk.cnt_le R n
  rw [hF.size]
  unfold maxLen
  omega
theorem LkMid.done {w w' : World} {base lp mb n : Nat} {R : Int → List Int} {i : Int} {x : Hdr} {l : List Int} (h : LkMid Z w base lp mb n R i x l) (hi : InI i) (h0 : 0 ≤ i) (h1 : i < n) (hok : Lk.Ok (Lk.upd R i l) n)
    {D : DataW Unit} {hs : Int → Hdr} (hD : w.ownsMap Try.prog KI rowElem mb (Maps.size D) D) (hF : FitsL D n hs R) (hR : ∀ j, InI j → j ≠ i → Rw w base (hs j) (R j)) (hX : ∀ j b o m c, InI j → hs j = some (b, o, m, c) → b ≠ lp ∧ b ≠ mb ∧ ¬ Z b)
    (hY : ∀ i j b o m c o' m' c', InI i → InI j → hs i = some (b, o, m, c) → hs j = some (b, o', m', c') → i = j) (hx : ∀ b o m c, x = some (b, o, m, c) → b ≠ lp ∧ b ≠ mb ∧ ¬ Z b) (hy : ∀ j b o m c o' m' c', InI j → j ≠ i → hs j = some (b, o, m, c) → x ≠ some (b, o', m', c'))
    (hD' : w'.ownsMap Try.prog KI rowElem mb (Maps.size D + 1) (D.put (kL i) (hdD x))) (hg : w.grownBy w' (some mb)) : LkAt Z w' base lp mb n (Lk.upd R i l) ∧ Below base w w' := by
  have hbl : ∀ b, b < w.heap.size → b ≠ mb → w'.heap[b]? = w.heap[b]? := fun b hb hne => hg.block b hb (fun e => hne (by cases e; rfl))
  have hmlt : mb < w.heap.size := hD.lt
  refine ⟨⟨hok, h.n0, h.n1, (World.cell?_of_block (w := w) (a := ⟨lp, 0, none⟩) (hbl lp h.lt h.ne)).trans h.c0, (World.cell?_of_block (w := w) (a := ⟨lp, 1, none⟩) (hbl lp h.lt h.ne)).trans h.c1, h.b0, h.b1, Nat.lt_of_lt_of_le h.lt hg.size, h.ne, fun k hk => ⟨Nat.lt_of_lt_of_le (h.flt k hk).1 hg.size, (h.flt k hk).2⟩,
    _, _, own_resetL hD', hF.put (hD.tidy int_law) hi h0 h1 h.n1 x h.full, fun j hj => ?_, fun j b o m c hj e => ?_, ?_⟩, ⟨hg.os, hg.tape, hg.output, hg.size, fun b hb => hbl b (Nat.lt_of_lt_of_le hb (by have := h.b1; omega)) (by have := h.b1; omega)⟩⟩
  · by_cases e : j = i
    · subst e
      simp only [if_true]
      rw [Lk.upd_same]
      rcases h.new with hn | ⟨b, o, c, e2, hs2⟩
      · exact absurd hn.2 h.full
      · exact .inr ⟨b, o, c, e2, hs2.keep (hbl b hs2.lt (hx _ _ _ _ e2).2.1)⟩
    · simp only [if_neg e]
      rw [Lk.upd_other R l e]
      rcases hR j hj e with hn | ⟨b, o, c, e2, hs2⟩
      · exact .inl hn
      · exact .inr ⟨b, o, c, e2, hs2.keep (hbl b hs2.lt (hX _ _ _ _ _ hj e2).2.1)⟩
  · by_cases e3 : j = i
    · simp only [if_pos e3] at e
      exact hx _ _ _ _ e
    · simp only [if_neg e3] at e
      exact hX _ _ _ _ _ hj e
  · intro j k b o m c o' m' c' hj hk e1 e2
    by_cases a1 : j = i <;> by_cases a2 : k = i
    · rw [a1, a2]
    · simp only [if_pos a1] at e1
      simp only [if_neg a2] at e2
      exact absurd e1 (hy k b o' m' c' o m c hk a2 e2)
    · simp only [if_neg a1] at e1
      simp only [if_pos a2] at e2
      exact absurd e2 (hy j b o m c o' m' c' hj a1 e1)
    · simp only [if_neg a1] at e1
      simp only [if_neg a2] at e2
      exact hY _ _ _ _ _ _ _ _ _ hj hk e1 e2
theorem wpList_lk_put {ops : Array Oper} {rest : List Oper} {o : Oper} {a : Act} {w : World} {Q : Exit → Act → World → Prop} (hg : o.guard = none) (m x v : Operand) (ho : o.op = .mapUpdate 63 m x v)
    {base lp mb n : Nat} {R : Int → List Int} {i : Int} {h : Hdr} {l : List Int} (hM : LkMid Z w base lp mb n R i h l) (hi : InI i) (h0 : 0 ≤ i) (h1 : i < n) (hok : Lk.Ok (Lk.upd R i l) n) (hm : a.eval m = .map (some mb)) (hx : a.eval x = .int .i64 i) (hv : a.eval v = hdV h)
    (hK : ∀ w', LkAt Z w' base lp mb n (Lk.upd R i l) → Below base w w' → (∀ k, k < w.heap.size → k ≠ mb → w'.heap[k]? = w.heap[k]?) → wpList Try.prog ops Q rest (a.put o.dst undef) w') : wpList Try.prog ops Q (o :: rest) a w := by
  obtain ⟨D, hs, hD, hF, hR, hX, hY, hx2, hy2⟩ := hM.own
  refine wpList_mapUpdate_own w hg m x v _ ho KI 36 int_law Try.underlying63 rowElem mb (Maps.size D) D hm hD (hM.size hF hM.n1) _ _ _ hx hv (key_int hi) (hdD h) [] (rowElem_mk h) fun w' k1 k2 => ?_
  obtain ⟨r1, r2⟩ := hM.done hi h0 h1 hok hD hF hR hX hY hx2 hy2 k1 k2
  exact hK w' r1 r2 fun k hk hne => k2.block k hk (fun e => hne (by cases e; rfl))
set_option maxHeartbeats 1000000 in
theorem new_no (n : Int) (w : World) (h : ¬ (1 ≤ n ∧ n ≤ 128)) : Calls Try.prog 7 #[.int .i64 n] w fun e w' => e = .returned (.tuple #[.pointer none, .int .i64 1]) ∧ w = w' := by
  by_cases h1 : n < 1
  · go_enter Try.func7, Try.ntmps7
    go_wp2_with fail
    go_ret2
    exact ⟨rfl, rfl⟩
  · have h2 : 128 < n := by omega
    go_enter Try.func7, Try.ntmps7
    go_wp2_with fail
    go_ret2
    exact ⟨rfl, rfl⟩
theorem ok_none (n : Nat) : Lk.Ok (fun _ => []) n := ⟨fun _ _ => rfl, fun _ _ h => by simp at h, fun _ => List.nodup_nil⟩
theorem cnt_none : ∀ n, Lk.cnt (fun _ => []) n = 0
  | 0 => rfl
  | n + 1 => by simp [Lk.cnt, cnt_none n]
set_option maxHeartbeats 1000000 in
theorem new_yes (n : Nat) (w : World) (h0 : 1 ≤ n) (h1 : n ≤ 128) : Calls Try.prog 7 #[.int .i64 (n : Int)] w fun e w' => e = .returned (.tuple #[.pointer (some ⟨w.heap.size + 1, 0, none⟩), .int .i64 0]) ∧ LkAt (fun _ => False) w' w.heap.size (w.heap.size + 1) w.heap.size n (fun _ => []) ∧ Below w.heap.size w w' := by
  have hs1 : (w.alloc (.map #[] 0)).heap.size = w.heap.size + 1 := by simp
  have hC := CsAt.new (w.alloc (.map #[] 0)) 65 #[.int .i64 (n : Int), .map (some w.heap.size)]
  rw [hs1] at hC
  have HL := Lib.hid (show LkAt (fun _ => False) ((w.alloc (.map #[] 0)).alloc (.cells #[.int .i64 (n : Int), .map (some w.heap.size)] 65)) w.heap.size (w.heap.size + 1) w.heap.size n (fun _ => []) from
    ⟨ok_none n, h0, h1, hC.cell 0, hC.cell 1, by omega, Nat.le_refl _, hC.lt, by omega, fun _ hf => hf.elim, .map [], fun _ => none, own_resetL ((World.ownsMap_made w Try.prog KI rowElem).alloc _),
      ⟨fun _ _ => rfl, fun _ _ => by simp [Maps.has], by rw [cnt_none]; rfl⟩, fun _ _ => .inl ⟨rfl, rfl⟩, fun _ _ _ _ _ _ e => by simp at e, fun _ _ _ _ _ _ _ _ _ _ _ e => by simp at e⟩)
  have HB := Lib.hid (((Below.refl w.heap.size w).alloc (Nat.le_refl _) (.map #[] 0)).alloc (by simp) (.cells #[.int .i64 (n : Int), .map (some w.heap.size)] 65))
  have hmm := @run_makeMap Try.prog
  have g1 : decide ((n : Int) < 1) = false := by simp; omega
  have g2 : decide (128 < (n : Int)) = false := by simp; omega
  clear hC hs1
  go_enter Try.func7, Try.ntmps7
  go_wp2_with fail
  go_ret2
  exact ⟨rfl, HL.out, HB.out⟩
end Go.Proofs.Ytgegahnjhaldeaa
