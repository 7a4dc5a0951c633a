/-
  Contract of locks.Drop. Contracts of locks.Job: Done, behind, take, act, give, Step. Contracts of locks.Job: act, give, Step.
-/
import Derived.Test.YtjeolfcefeglpabGreatWbe
set_option maxRecDepth 20000
namespace Go.Proofs.YtjeolfcefeglpabGreat
open Go.ChangeShapes Go.WideShapes Go.ChangeAt Go.RowKit
variable {Z : Nat → Prop}

namespace Lk
def dropT (R : Int → List Int) (who at_ : Int) : Bool := decide (R at_ ≠ []) && ((R at_).getD 0 0 == who)
/-- The rows when a lock has been given back. -/
def drop (R : Int → List Int) (who at_ : Int) : Int → List Int := if dropT R who at_ = true then upd R at_ (R at_).tail else R
theorem ok_tail {R : Int → List Int} {n : Nat} (h : Ok R n) {i : Int} (hi : R i ≠ []) : Ok (upd R i (R i).tail) n := by
  refine ⟨fun j hj => ?_, fun j x hx => ?_, fun j => ?_⟩
  · by_cases e : j = i
    · subst e; exact absurd (h.out _ hj) hi
    · rw [upd_other R _ e]; exact h.out j hj
  · by_cases e : j = i
    · subst e
      rw [upd_same] at hx
      exact h.who _ _ (List.mem_of_mem_tail hx)
    · rw [upd_other R _ e] at hx; exact h.who _ _ hx
  · by_cases e : j = i
    · subst e
      rw [upd_same]
      exact (h.nod j).sublist (List.tail_sublist _)
    · rw [upd_other R _ e]; exact h.nod j
theorem in_range {R : Int → List Int} {n : Nat} (h : Ok R n) {i : Int} (hi : R i ≠ []) : 0 ≤ i ∧ i < (n : Int) := by
  by_cases e : 0 ≤ i ∧ i < (n : Int)
  · exact e
  · exact absurd (h.out i e) hi
end Lk
theorem FitsL.del {D : DataW Unit} {n : Nat} {hs : Int → Hdr} {R : Int → List Int} (h : FitsL D n hs R) (ht : Maps.Tidy D) {i : Int} (hi : InI i) (h0 : 0 ≤ i) (h1 : i < n) :
    FitsL (D.del (kL i)) n (fun j => if j = i then none else hs j) (Lk.upd R i []) := by
  have hne : ∀ j, j ≠ i → kL j ≠ kL i := fun j hji e => hji (kL_inj e)
  refine ⟨fun j hj => ?_, fun j hj => ?_, ?_⟩
  · by_cases e : j = i
    · subst e; rw [Maps.atKey_del_same, if_pos rfl]
    · rw [Maps.atKey_del_other (hne j e), if_neg e, h.at_ j hj]
  · by_cases e : j = i
    · subst e; rw [Maps.has_del_same, Lk.upd_same]; simp
    · rw [Maps.has_del_other (hne j e), Lk.upd_other R _ e, h.has j hj]
  · obtain ⟨k, rfl⟩ := Int.eq_ofNat_of_zero_le h0
    have c := Lk.cnt_upd R k [] n (by omega)
    have hs := Maps.size_del (k := kL k) ht
    rw [h.has _ hi, h.size] at hs
    rw [if_pos rfl] at c
    by_cases e : R k = []
    · rw [if_pos e] at c
      simp [e] at hs
      omega
    · rw [if_neg e] at c
      simp [e] at hs
      omega
theorem LkAt.gone {w w' : World} {base lp mb n : Nat} {R : Int → List Int} (h : LkAt Z w base lp mb n R) {i : Int} (hi : InI i) (h0 : 0 ≤ i) (h1 : i < n) (hok : Lk.Ok (Lk.upd R i []) n)
    {D : DataW Unit} {hs : Int → Hdr} (hD : w.ownsMap Tryz.prog KI rowElem mb (Maps.size D) D) (hF : FitsL D n hs R) (hR : ∀ j, InI j → Rw w base (hs j) (R j)) (hX : ∀ j b o m c, InI j → hs j = some (b, o, m, c) → b ≠ lp ∧ b ≠ mb ∧ ¬ Z b)
    (hY : ∀ i j b o m c o' m' c', InI i → InI j → hs i = some (b, o, m, c) → hs j = some (b, o', m', c') → i = j) {k : Nat}
    (hD' : w'.ownsMap Tryz.prog KI rowElem mb k (D.del (kL i))) (hg : w.grownBy w' (some mb)) : LkAt Z w' base lp mb n (Lk.upd R i []) ∧ Below base w w' := by
  have hbl : ∀ b, b < w.heap.size → b ≠ mb → w'.heap[b]? = w.heap[b]? := fun b hb hne => hg.block b hb (fun e => hne (by cases e; rfl))
  have hmlt : mb < w.heap.size := hD.lt
  refine ⟨⟨hok, h.n0, h.n1, (World.cell?_of_block (w := w) (a := ⟨lp, 0, none⟩) (hbl lp h.lt h.ne)).trans h.c0, (World.cell?_of_block (w := w) (a := ⟨lp, 1, none⟩) (hbl lp h.lt h.ne)).trans h.c1, h.b0, h.b1, Nat.lt_of_lt_of_le h.lt hg.size, h.ne, fun k hk => ⟨Nat.lt_of_lt_of_le (h.flt k hk).1 hg.size, (h.flt k hk).2⟩,
    _, _, own_resetL hD', hF.del (hD.tidy int_law) hi h0 h1, fun j hj => ?_, fun j b o m c hj e => ?_, ?_⟩, ⟨hg.os, hg.tape, hg.output, hg.size, fun b hb => hbl b (Nat.lt_of_lt_of_le hb (by have := h.b1; omega)) (by have := h.b1; omega)⟩⟩
  · by_cases e : j = i
    · subst e
      simp only [if_true]
      rw [Lk.upd_same]
      exact .inl ⟨rfl, rfl⟩
    · simp only [if_neg e]
      rw [Lk.upd_other R _ e]
      rcases hR j hj with hn | ⟨b, o, c, e2, hs2⟩
      · exact .inl hn
      · exact .inr ⟨b, o, c, e2, hs2.keep (hbl b hs2.lt (hX _ _ _ _ _ hj e2).2.1)⟩
  · by_cases e3 : j = i
    · simp only [if_pos e3] at e
      cases e
    · simp only [if_neg e3] at e
      exact hX _ _ _ _ _ hj e
  · intro j k b o m c o' m' c' hj hk e1 e2
    by_cases a1 : j = i
    · simp only [if_pos a1] at e1
      cases e1
    · by_cases a2 : k = i
      · simp only [if_pos a2] at e2
        cases e2
      · simp only [if_neg a1] at e1
        simp only [if_neg a2] at e2
        exact hY _ _ _ _ _ _ _ _ _ hj hk e1 e2
/-- A row without its first number. -/
theorem RwS.tail {w : World} {base b o c : Nat} {xs : List Int} (h : RwS w base b o c xs) (h1 : 1 < xs.length) : RwS w base b (o + 1) (c - 1) xs.tail := by
  have hle := h.le
  have hm := h.max
  refine ⟨by rw [List.length_tail]; omega, by rw [List.length_tail]; omega, by omega, h.base, h.lt, fun j hj => ?_, fun j hj => ?_, fun j hj => ?_, h.ty⟩
  · rw [List.length_tail] at hj
    rw [show o + 1 + j = o + (j + 1) by omega, h.cell (j + 1) (by omega)]
    cases xs with
    | nil => simp at h1
    | cons x l => rfl
  · rw [show o + 1 + j = o + (j + 1) by omega]
    exact h.spare (j + 1) (by omega)
  · rw [show o + 1 + j = o + (j + 1) by omega]
    exact h.froz (j + 1) (by omega)
theorem LkAt.midTail {w : World} {base lp mb n : Nat} {R : Int → List Int} (h : LkAt Z w base lp mb n R) {D : DataW Unit} {hs : Int → Hdr} (hD : w.ownsMap Tryz.prog KI rowElem mb (Maps.size D) D) (hF : FitsL D n hs R) (hR : ∀ i, InI i → Rw w base (hs i) (R i)) (hX : ∀ i b o m c, InI i → hs i = some (b, o, m, c) → b ≠ lp ∧ b ≠ mb ∧ ¬ Z b)
    (hY : ∀ i j b o m c o' m' c', InI i → InI j → hs i = some (b, o, m, c) → hs j = some (b, o', m', c') → i = j) (i : Int) (hi : InI i) {b o c : Nat} (he : hs i = some (b, o, (R i).length, c)) (hS : RwS w base b o c (R i)) (h1 : 1 < (R i).length) :
    LkMid Z w base lp mb n R i (some (b, o + 1, (R i).tail.length, c - 1)) (R i).tail :=
  ⟨h.ok, h.n0, h.n1, h.c0, h.c1, h.b0, h.b1, h.lt, h.ne, h.flt, .inr ⟨b, o + 1, c - 1, rfl, hS.tail h1⟩, fun e => by have := congrArg List.length e; rw [List.length_tail] at this; simp at this; omega, D, hs, hD, hF, fun j hj _ => hR j hj, hX, hY,
    fun b' o' m c' e => by cases e; exact hX i _ _ _ _ hi he, fun j b' o1 m1 c1 o2 m2 c2 hj hji e e2 => by cases e2; exact hji (hY _ _ _ _ _ _ _ _ _ hj hi e he)⟩
theorem LkMid.low {w w' : World} {base lp mb n : Nat} {R : Int → List Int} {i : Int} {x : Hdr} {l : List Int} (h : LkMid Z w base lp mb n R i x l) (hb : Below w.heap.size w w') : LkMid Z w' base lp mb n R i x l := by
  obtain ⟨D, hs, hD, hF, hR, hX, hY, hx, hy⟩ := h.own
  exact ⟨h.ok, h.n0, h.n1, (hb.cell (p := ⟨lp, 0, none⟩) h.lt).trans h.c0, (hb.cell (p := ⟨lp, 1, none⟩) h.lt).trans h.c1, h.b0, h.b1, Nat.lt_of_lt_of_le h.lt hb.size, h.ne, fun k hk => ⟨Nat.lt_of_lt_of_le (h.flt k hk).1 hb.size, (h.flt k hk).2⟩, h.new.low hb, h.full, D, hs,
    hD.kept (row := none) ⟨hb.os, hb.tape, hb.output, hb.size, fun i hi _ => hb.block i hi⟩ (by simp), hF, fun j hj hji => (hR j hj hji).low hb, hX, hY, hx, hy⟩
set_option maxHeartbeats 4000000 in
theorem drop_c (who at_ : Int) (base lp mb n : Nat) (R : Int → List Int) (w : World) (h : LkAt Z w base lp mb n R) (ha : InI at_) :
    Calls Tryz.prog 64 #[.pointer (some ⟨lp, 0, none⟩), .int .i64 who, .int .i64 at_] w fun e w' => e = .returned (.bool (Lk.dropT R who at_)) ∧ LkAt Z w' base lp mb n (Lk.drop R who at_) ∧ Below base w w' ∧ KeptZ Z w w' := by
  have HH := Lib.hid h
  have hbase : base ≤ w.heap.size := by have := h.b0; have := h.lt; omega
  obtain ⟨D, hs, hD, hF, hR, hX, hY⟩ := h.own
  have HRow := Lib.hid (rowH_c at_ base lp mb n R w h hD hF ha)
  have HHo := Lib.hid (holder_c (.pointer (some ⟨lp, 0, none⟩)) at_ n R w (.inr ⟨_, base, lp, mb, rfl, h⟩) ha)
  have hlen := h.ok.len at_
  have HD := Lib.hid hD
  have HF := Lib.hid hF
  have HR := Lib.hid hR
  have HX := Lib.hid hX
  have HY := Lib.hid hY
  have cm := h.c1
  clear h hD hF hR hX hY
  rcases HR.out at_ ha with ⟨e2, e3⟩ | ⟨b, o, c, e2, hS⟩
  · have HT := Lib.hid (show Lk.dropT R who at_ = false by unfold Lk.dropT; rw [e3]; rfl)
    have HN := Lib.hid (show Lk.drop R who at_ = R by unfold Lk.drop; rw [HT.out]; simp)
    rw [show decide (R at_ ≠ []) = false by rw [e3]; rfl] at HHo
    generalize (R at_).getD 0 0 = y at *
    go_enter Tryz.func64, Tryz.ntmps64
    go_wp2_with fail
    refine HHo.out.mono ?_
    rintro e w' ⟨rfl, rfl⟩
    go_wp2_with fail
    go_ret
    exact ⟨by rw [HT.out]; rfl, by rw [HN.out]; exact HH.out, Below.refl _ _, KeptZ.refl _⟩
  · have hpos := hS.pos
    have HNE := Lib.hid (show R at_ ≠ [] from fun e => by rw [e] at hpos; simp at hpos)
    rw [show decide (R at_ ≠ []) = true from decide_eq_true HNE.out] at HHo
    have HRG := Lib.hid (Lk.in_range HH.out.ok HNE.out)
    have HOK := Lib.hid (Lk.ok_tail HH.out.ok HNE.out)
    cases hq : ((R at_).getD 0 0 == who)
    · have HT := Lib.hid (show Lk.dropT R who at_ = false by unfold Lk.dropT; rw [hq]; simp)
      have HN := Lib.hid (show Lk.drop R who at_ = R by unfold Lk.drop; rw [HT.out]; simp)
      have hq2 : ((R at_).getD 0 0 != who) = true := by rw [bne, hq]; rfl
      generalize (R at_).getD 0 0 = y at *
      go_enter Tryz.func64, Tryz.ntmps64
      go_wp2_with fail
      refine HHo.out.mono ?_
      rintro e w' ⟨rfl, rfl⟩
      go_wp2_with fail
      go_ret
      exact ⟨by rw [HT.out]; rfl, by rw [HN.out]; exact HH.out, Below.refl _ _, KeptZ.refl _⟩
    · have HT := Lib.hid (show Lk.dropT R who at_ = true by unfold Lk.dropT; rw [hq, decide_eq_true HNE.out]; rfl)
      have HN := Lib.hid (show Lk.drop R who at_ = Lk.upd R at_ (R at_).tail by unfold Lk.drop; rw [HT.out]; simp)
      have hq2 : ((R at_).getD 0 0 != who) = false := by rw [bne, hq]; rfl
      have HS := Lib.hid hS
      have HE2 := Lib.hid e2
      have HE3 := Lib.hid (show hdV (hs at_) = Value.slice (some ⟨b, o, none⟩) (R at_).length c by rw [e2]; rfl)
      have hle := hS.le
      generalize (R at_).getD 0 0 = y at *
      clear hS e2
      go_enter Tryz.func64, Tryz.ntmps64
      go_wp2_with fail
      refine HHo.out.mono ?_
      rintro e w' ⟨rfl, rfl⟩
      go_wp2_with fail
      refine HRow.out.mono ?_
      rintro e w' ⟨rfl, rfl⟩
      rw [HE3.out]
      by_cases h1 : 1 < (R at_).length
      · have g1 : (1 : Int) < (R at_).length := by omega
        go_upto_region 6 with fail
        have HM := Lib.hid (HH.out.midTail HD.out HF.out HR.out HX.out HY.out at_ ha HE2.out HS.out h1)
        have HVV := Lib.hid (show Value.slice (some ⟨b, o + 1, none⟩) ((R at_).length - 1) (c - 1) = hdV (some (b, o + 1, (R at_).tail.length, c - 1)) by rw [List.length_tail]; rfl)
        have g4 : ((R at_).length : Int) ≤ c := by omega
        have g5 : 1 < c := by omega
        refine wp_region_steady_tail (fun W => LkMid Z W base lp mb n R at_ (some (b, o + 1, (R at_).tail.length, c - 1)) (R at_).tail ∧ Below w.heap.size w W) 7 (by kernel_rfl) (by kernel_rfl) ⟨HM.out.low (Below.refl _ _).drew, (Below.refl _ _).drew⟩ ?_
        iterate 6
          refine steady_val ?_ ?_ (by kernel_rfl) (fun W hS => ?_) ?_ ?_
          rotate_left 2
          · have c1 := hS.1.c1; go_simp
            exact rfl
          · go_simp
            exact rfl
        refine steady_val (Value.slice (some ⟨b, o + 1, none⟩) ((R at_).length - 1) (c - 1)) ?_ (by kernel_rfl) (fun W hS => ?_) ?_ ?_
        rotate_left 1
        · go_simp
          rw [if_pos (by omega), if_neg (by omega)]
        · go_simp
          exact rfl
        refine steady_nil ?_
        rintro W ⟨hW1, hW2⟩
        simp only [List.drop_succ_cons, List.drop_zero]
        have HM2 := Lib.hid hW1
        have HB2 := Lib.hid (hW2.mono hbase)
        have HZ1 := Lib.hid (And.intro (KeptZ.below HH.out hW2) hW2.size)
        clear hW1 hW2
        refine wpList_lk_put rfl _ _ _ rfl HM2.out ha HRG.out.1 HRG.out.2 HOK.out rfl rfl HVV.out ?_
        intro w3 h3 o3 hk3
        have HK := Lib.hid (And.intro h3 (HB2.out.trans o3))
        have HZ2 := Lib.hid (HZ1.out.1.step HH.out HZ1.out.2 hk3)
        clear h3 o3 hk3
        go_wp2_with fail
        go_ret
        exact ⟨by rw [HT.out]; rfl, by rw [HN.out]; exact HK.out.1, HK.out.2, HZ2.out⟩
      · have e1 : (R at_).length = 1 := by omega
        have HTL := Lib.hid (show (R at_).tail = [] from len_zero (by rw [List.length_tail]; omega))
        rw [e1]
        go_wp2_with (at_delete; refine wpList_delete_own _ rfl _ _ 95 KI rfl 45 int_law Tryz.underlying95 rowElem mb (Maps.size D) D rfl HD.out _ _ rfl (key_int ha) ?_)
        intro w2 hd hg
        have HG := Lib.hid (HH.out.gone ha HRG.out.1 HRG.out.2 (by have := HOK.out; rwa [HTL.out] at this) HD.out HF.out HR.out HX.out HY.out hd hg.grown)
        have HZ2 := Lib.hid (show KeptZ Z w w2 from fun k hk => hg.grown.block k (HH.out.flt k hk).1 (fun e => (HH.out.flt k hk).2 (by cases e; rfl)))
        clear hd hg
        go_wp2_with fail
        go_ret
        exact ⟨by rw [HT.out]; rfl, by rw [HN.out, HTL.out]; exact HG.out.1, HG.out.2, HZ2.out⟩
end Go.Proofs.YtjeolfcefeglpabGreat
set_option maxRecDepth 20000
namespace Go.Proofs.YtjeolfcefeglpabGreat
open Go.ChangeShapes Go.WideShapes Go.ChangeAt Go.RowKit
variable {Z : Nat → Prop}

theorem JobAt.lt {W : World} {b off : Nat} {v : Value} {took gave : Int} {did : Bool} (h : JobAt W b off v took gave did) : b < W.heap.size := World.block_lt_of_cell? W _ h.c0
theorem JobAt.on {W W' : World} {b off : Nat} {v : Value} {took gave : Int} {did : Bool} (h : JobAt W b off v took gave did) (hb : W'.heap[b]? = W.heap[b]?) : JobAt W' b off v took gave did :=
  ⟨(World.cell?_of_block (w := W) (a := ⟨b, off, none⟩) hb).trans h.c0, (World.cell?_of_block (w := W) (a := ⟨b, off + 1, none⟩) hb).trans h.c1, (World.cell?_of_block (w := W) (a := ⟨b, off + 2, none⟩) hb).trans h.c2, (World.cell?_of_block (w := W) (a := ⟨b, off + 3, none⟩) hb).trans h.c3,
    (World.frozen?_of_block (w := W) (a := ⟨b, off + 1, none⟩) hb).trans h.f1, (World.frozen?_of_block (w := W) (a := ⟨b, off + 2, none⟩) hb).trans h.f2, (World.frozen?_of_block (w := W) (a := ⟨b, off + 3, none⟩) hb).trans h.f3⟩
theorem JobAt.low {W W' : World} {b off : Nat} {v : Value} {took gave : Int} {did : Bool} (h : JobAt W b off v took gave did) (hb : Below W.heap.size W W') : JobAt W' b off v took gave did := h.on (hb.block b h.lt)
theorem cell_ne {W : World} {b i j : Nat} (h : i ≠ j) (v : Value) : (W.setCell ⟨b, i, none⟩ v).cell? ⟨b, j, none⟩ = W.cell? ⟨b, j, none⟩ := by
  apply World.cell?_setCell_other
  intro e
  exact h (by cases e; rfl)
theorem cell_eq {W : World} {b i : Nat} {u : Value} (h : W.cell? ⟨b, i, none⟩ = some u) (v : Value) : (W.setCell ⟨b, i, none⟩ v).cell? ⟨b, i, none⟩ = some v := World.cell?_setCell_same' _ _ _ (by rw [h]; rfl)
theorem JobAt.took {W : World} {b off : Nat} {v : Value} {took gave : Int} {did : Bool} (h : JobAt W b off v took gave did) (x : Int) : JobAt (W.setCell ⟨b, off + 1, none⟩ (.int .i64 x)) b off v x gave did :=
  ⟨(cell_ne (by omega) _).trans h.c0, cell_eq h.c1 _, (cell_ne (by omega) _).trans h.c2, (cell_ne (by omega) _).trans h.c3, by rw [World.frozen?_setCell]; exact h.f1, by rw [World.frozen?_setCell]; exact h.f2, by rw [World.frozen?_setCell]; exact h.f3⟩
theorem JobAt.gave {W : World} {b off : Nat} {v : Value} {took gave : Int} {did : Bool} (h : JobAt W b off v took gave did) (x : Int) : JobAt (W.setCell ⟨b, off + 2, none⟩ (.int .i64 x)) b off v took x did :=
  ⟨(cell_ne (by omega) _).trans h.c0, (cell_ne (by omega) _).trans h.c1, cell_eq h.c2 _, (cell_ne (by omega) _).trans h.c3, by rw [World.frozen?_setCell]; exact h.f1, by rw [World.frozen?_setCell]; exact h.f2, by rw [World.frozen?_setCell]; exact h.f3⟩
theorem JobAt.did {W : World} {b off : Nat} {v : Value} {took gave : Int} {did : Bool} (h : JobAt W b off v took gave did) (x : Bool) : JobAt (W.setCell ⟨b, off + 3, none⟩ (.bool x)) b off v took gave x :=
  ⟨(cell_ne (by omega) _).trans h.c0, (cell_ne (by omega) _).trans h.c1, (cell_ne (by omega) _).trans h.c2, cell_eq h.c3 _, by rw [World.frozen?_setCell]; exact h.f1, by rw [World.frozen?_setCell]; exact h.f2, by rw [World.frozen?_setCell]; exact h.f3⟩
set_option maxHeartbeats 2000000 in
theorem done_c (b off : Nat) (p : Option Addr) (m cap : Nat) (took gave : Int) (did : Bool) (w : World) (hj : JobAt w b off (.slice p m cap) took gave did) :
    Calls Tryz.prog 16 #[.pointer (some ⟨b, off, none⟩)] w fun e w' => e = .returned (.bool (did && (gave == (m : Int)))) ∧ Below w.heap.size w w' := by
  obtain ⟨c0, c1, c2, c3, -, -, -⟩ := hj
  cases did
  · go_enter Tryz.func16, Tryz.ntmps16
    go_wp2_with fail
    go_quiet (fail)
    have HB := Lib.hid (below_dnS (Below.refl w.heap.size w) nq)
    go_wp2_with fail
    go_ret
    exact ⟨rfl, HB.out⟩
  · go_enter Tryz.func16, Tryz.ntmps16
    go_wp2_with fail
    go_quiet (fail)
    have HB := Lib.hid (below_dnS (Below.refl w.heap.size w) nq)
    go_wp2_with fail
    go_ret
    exact ⟨rfl, HB.out⟩
theorem behind_c (b off : Nat) (p : Option Addr) (m cap : Nat) (took gave told : Int) (did : Bool) (w : World) (hj : JobAt w b off (.slice p m cap) took gave did) :
    Calls Tryz.prog 63 #[.pointer (some ⟨b, off, none⟩), .int .i64 told] w fun e w' => e = .returned (.int .i64 (if (did && (gave == (m : Int))) = true then 4 else told)) ∧ Below w.heap.size w w' := by
  have HX := Lib.hid (done_c b off p m cap took gave did w hj)
  clear hj
  generalize (did && (gave == (m : Int))) = d at *
  go_enter Tryz.func63, Tryz.ntmps63
  go_wp2_with fail
  refine HX.out.mono ?_
  rintro e w1 ⟨rfl, hb⟩
  have HB := Lib.hid hb
  clear hb
  cases d
  · go_wp2_with fail
    go_ret
    exact ⟨rfl, HB.out⟩
  · go_wp2_with fail
    go_ret
    exact ⟨rfl, HB.out⟩
/-- Of what is none of the locks' only the job at b, off has changed. -/
structure JobOnly (Z : Nat → Prop) (b off : Nat) (w w' : World) : Prop where
  blk : ∀ k, Z k → k ≠ b → w'.heap[k]? = w.heap[k]?
  cell : ∀ j, j ≠ off + 1 → j ≠ off + 2 → j ≠ off + 3 → w'.cell? ⟨b, j, none⟩ = w.cell? ⟨b, j, none⟩
  froz : ∀ j, w'.frozen? ⟨b, j, none⟩ = w.frozen? ⟨b, j, none⟩
theorem JobOnly.of_kept {b off : Nat} {w w' : World} (h : KeptZ Z w w') (hz : Z b) : JobOnly Z b off w w' :=
  ⟨fun k hk _ => h k hk, fun j _ _ _ => World.cell?_of_block (w := w) (a := ⟨b, j, none⟩) (h b hz), fun j => World.frozen?_of_block (w := w) (a := ⟨b, j, none⟩) (h b hz)⟩
theorem JobOnly.trans {b off : Nat} {u v w : World} (h : JobOnly Z b off u v) (k : JobOnly Z b off v w) : JobOnly Z b off u w :=
  ⟨fun j hz hj => (k.blk j hz hj).trans (h.blk j hz hj), fun j a1 a2 a3 => (k.cell j a1 a2 a3).trans (h.cell j a1 a2 a3), fun j => (k.froz j).trans (h.froz j)⟩
theorem JobOnly.set {b off : Nat} {w : World} (i : Nat) (hi : i = off + 1 ∨ i = off + 2 ∨ i = off + 3) (v : Value) : JobOnly Z b off w (w.setCell ⟨b, i, none⟩ v) :=
  ⟨fun k _ hk => heap_setCell_other w ⟨b, i, none⟩ k v hk, fun j a1 a2 a3 => cell_ne (by omega) v, fun j => World.frozen?_setCell _ _ _ _⟩
set_option maxHeartbeats 4000000 in
/-- The step that takes a lock, at the least one that the job hasn't yet. -/
theorem jtake_c (b off : Nat) (p : Option Addr) (cap : Nat) (xs : List Int) (k : Nat) (gave who : Int) (did : Bool) (base lp mb n : Nat) (R : Int → List Int) (w : World)
    (hj : JobAt w b off (.slice p xs.length cap) k gave did) (hz : Z b) (hbl : b ≠ lp) (hbb : base ≤ b) (hv : Vw w p (iV xs)) (hk : k < xs.length) (hx : InI (xs.getD k 0)) (hl : xs.length ≤ 1000000) (h : LkAt Z w base lp mb n R) :
    Calls Tryz.prog 31 #[.pointer (some ⟨b, off, none⟩), .pointer (some ⟨lp, 0, none⟩), .int .i64 who] w fun e w' =>
      e = .returned (.int .i64 (if Lk.takeT R n who (xs.getD k 0) = true then 1 else 0)) ∧ LkAt Z w' base lp mb n (Lk.take R n who (xs.getD k 0)) ∧ Below base w w' ∧ JobOnly Z b off w w' ∧
        JobAt w' b off (.slice p xs.length cap) (if Lk.takeT R n who (xs.getD k 0) = true then ((k + 1 : Nat) : Int) else k) gave did := by
  obtain ⟨pb, po, rfl, hpl, hcell⟩ := hv.cells (by omega)
  have ck := hcell k hk
  have HJ := Lib.hid hj
  have HH := Lib.hid h
  have HX := Lib.hid hx
  have hbase : base ≤ w.heap.size := by have := h.b0; have := h.lt; omega
  clear hj h hx
  generalize hy : xs.getD k 0 = y at *
  have g : (k : Int) < xs.length := by omega
  have HTK := Lib.hid (fun W (hW : LkAt Z W base lp mb n R) => take_c who y base lp mb n R W hW HX.out)
  clear hcell hv
  generalize Lk.takeT R n who y = told at *
  generalize Lk.take R n who y = R2 at *
  cases told
  · simp only [Bool.false_eq_true, if_false]
    go_enter Tryz.func31, Tryz.ntmps31
    go_upto_region 1 with fail
    refine wp_region_steady_tail (fun W => Below w.heap.size w W) 12 (by kernel_rfl) (by kernel_rfl) ((Below.refl _ _).drew) ?_
    iterate 12
      refine steady_val ?_ ?_ (by kernel_rfl) (fun W hS => ?_) ?_ ?_
      rotate_left 2
      · have hJ := HJ.out.low hS
        have d0 := hJ.c0
        have d1 := hJ.c1
        have dk := (hS.cell (p := ⟨pb, po + k, none⟩) hpl).trans ck
        go_simp
        exact rfl
      · go_simp
        exact rfl
    refine steady_nil ?_
    intro W hW
    simp only [List.drop_succ_cons, List.drop_zero]
    have HW := Lib.hid hW
    clear hW ck
    go_wp2_with fail
    refine (HTK.out W (HH.out.low HW.out)).mono ?_
    rintro e w2 ⟨rfl, hL, hb, hkz⟩
    have HL2 := Lib.hid hL
    have HB2 := Lib.hid ((HW.out.mono hbase).trans hb)
    have HJ2 := Lib.hid ((HJ.out.low HW.out).on (hkz b hz))
    have HO2 := Lib.hid ((JobOnly.of_kept (off := off) (KeptZ.below HH.out HW.out) hz).trans (JobOnly.of_kept hkz hz))
    clear hL hb hkz
    go_wp2_with fail
    go_ret
    exact ⟨rfl, HL2.out, HB2.out, HO2.out, HJ2.out⟩
  · simp only [if_true]
    go_enter Tryz.func31, Tryz.ntmps31
    go_upto_region 1 with fail
    refine wp_region_steady_tail (fun W => Below w.heap.size w W) 12 (by kernel_rfl) (by kernel_rfl) ((Below.refl _ _).drew) ?_
    iterate 12
      refine steady_val ?_ ?_ (by kernel_rfl) (fun W hS => ?_) ?_ ?_
      rotate_left 2
      · have hJ := HJ.out.low hS
        have d0 := hJ.c0
        have d1 := hJ.c1
        have dk := (hS.cell (p := ⟨pb, po + k, none⟩) hpl).trans ck
        go_simp
        exact rfl
      · go_simp
        exact rfl
    refine steady_nil ?_
    intro W hW
    simp only [List.drop_succ_cons, List.drop_zero]
    have HW := Lib.hid hW
    clear hW ck
    go_wp2_with fail
    refine (HTK.out W (HH.out.low HW.out)).mono ?_
    rintro e w2 ⟨rfl, hL, hb, hkz⟩
    have HL2 := Lib.hid hL
    have HB2 := Lib.hid ((HW.out.mono hbase).trans hb)
    have HJ2 := Lib.hid ((HJ.out.low HW.out).on (hkz b hz))
    have HO2 := Lib.hid ((JobOnly.of_kept (off := off) (KeptZ.below HH.out HW.out) hz).trans (JobOnly.of_kept hkz hz))
    clear hL hb hkz
    have c1 := HJ2.out.c1
    have f1 := HJ2.out.f1
    have HL3 := Lib.hid (HL2.out.far (i := off + 1) hz hbl (.int .i64 ((k + 1 : Nat) : Int)))
    have HB3 := Lib.hid (HB2.out.setCell (p := ⟨b, off + 1, none⟩) hbb (.int .i64 ((k + 1 : Nat) : Int)))
    have HO3 := Lib.hid (HO2.out.trans (JobOnly.set (w := w2) (off + 1) (.inl rfl) (.int .i64 ((k + 1 : Nat) : Int))))
    have HJ3 := Lib.hid (HJ2.out.took ((k + 1 : Nat) : Int))
    have hw : IntKind.i64.wrap ((k : Int) + 1) = ((k + 1 : Nat) : Int) := by rw [IntKind.wrap_i64]; omega
    go_wp2_with fail
    go_ret
    exact ⟨rfl, HL3.out, HB3.out, HO3.out, HJ3.out⟩
end Go.Proofs.YtjeolfcefeglpabGreat
set_option maxRecDepth 20000
namespace Go.Proofs.YtjeolfcefeglpabGreat
open Go.ChangeShapes Go.WideShapes Go.ChangeAt Go.RowKit
variable {Z : Nat → Prop}

theorem fn_not_nil (F : FuncId) (cs : Array Value) (w : World) : (binOp .neq 1 (.func (.func F) #[] cs) .nilFunc).run Tryz.prog w = .ok (.bool true) w := by kernel_rfl
set_option maxHeartbeats 2000000 in
/-- The step that does what the job is for. -/
theorem jact_c (b off : Nat) (p : Option Addr) (m cap : Nat) (took gave : Int) (did : Bool) (F : FuncId) (cs : Array Value) (Post : World → Prop) (w : World) (hj : JobAt w b off (.slice p m cap) took gave did)
    (hA : Calls Tryz.prog F cs (w.setCell ⟨b, off + 3, none⟩ (.bool true)) fun e w' => e = .returned (.tuple #[]) ∧ Post w') (hJ : ∀ w', Post w' → JobAt w' b off (.slice p m cap) took gave true) (hE : Go.Proofs.Enters Tryz.prog F) :
    Calls Tryz.prog 32 #[.pointer (some ⟨b, off, none⟩), .func (.func F) #[] cs] w fun e w' => e = .returned (.int .i64 (if (true && (gave == (m : Int))) = true then 4 else 2)) ∧ ∃ w1, Post w1 ∧ Below w1.heap.size w1 w' := by
  have c3 := hj.c3
  have f3 := hj.f3
  have hq := fn_not_nil F cs
  have HA := Lib.hid hA
  have HJ := Lib.hid hJ
  have HE := Lib.hid hE
  have HB := Lib.hid (fun w' (h : JobAt w' b off (.slice p m cap) took gave true) => behind_c b off p m cap took gave 2 true w' h)
  clear hA hJ hE hj
  generalize (if (true && (gave == (m : Int))) = true then (4 : Int) else 2) = r at *
  go_enter Tryz.func32, Tryz.ntmps32
  go_wp2_with fail
  rw [HE.out]
  refine HA.out.mono ?_
  rintro e w1 ⟨rfl, hp⟩
  have HP := Lib.hid hp
  clear hp
  go_wp2_with fail
  refine (HB.out w1 (HJ.out w1 HP.out)).mono ?_
  rintro e w2 ⟨rfl, hb⟩
  have HB2 := Lib.hid hb
  clear hb
  go_wp2_with fail
  go_ret
  exact ⟨rfl, w1, HP.out, HB2.out⟩
set_option maxHeartbeats 4000000 in
/-- The step that gives a lock back, the greatest that the job still has. -/
theorem jgive_c (b off pb po cap : Nat) (xs : List Int) (k : Nat) (took who : Int) (base lp mb n : Nat) (R : Int → List Int) (w : World)
    (hj : JobAt w b off (.slice (some ⟨pb, po, none⟩) xs.length cap) took k true) (hz : Z b) (hbl : b ≠ lp) (hbb : base ≤ b) (hpb : pb ≠ b) (hpl : pb < w.heap.size) (hcell : ∀ j, j < xs.length → w.cell? ⟨pb, po + j, none⟩ = some (.int .i64 (xs.getD j 0)))
    (hk : k < xs.length) (hx : InI (xs.getD (xs.length - (k + 1)) 0)) (hl : xs.length ≤ 1000000) (h : LkAt Z w base lp mb n R) :
    Calls Tryz.prog 33 #[.pointer (some ⟨b, off, none⟩), .pointer (some ⟨lp, 0, none⟩), .int .i64 who] w fun e w' =>
      e = .returned (.int .i64 (if (true && (((k : Int) + 1) == (xs.length : Int))) = true then 4 else 3)) ∧ LkAt Z w' base lp mb n (Lk.drop R who (xs.getD (xs.length - (k + 1)) 0)) ∧ Below base w w' ∧ JobOnly Z b off w w' ∧
        JobAt w' b off (.slice (some ⟨pb, po, none⟩) xs.length cap) took ((k : Int) + 1) true := by
  have c2 := hj.c2
  have f2 := hj.f2
  have ck := (World.cell?_of_block (w := w) (a := ⟨pb, po + (xs.length - (k + 1)), none⟩) (heap_setCell_other w ⟨b, off + 2, none⟩ pb (.int .i64 ((k : Int) + 1)) hpb)).trans (hcell (xs.length - (k + 1)) (by omega))
  have HJ1 := Lib.hid (hj.gave ((k : Int) + 1))
  have HH1 := Lib.hid (h.far (i := off + 2) hz hbl (.int .i64 ((k : Int) + 1)))
  have HO1 := Lib.hid (JobOnly.set (Z := Z) (b := b) (off := off) (w := w) (off + 2) (.inr (.inl rfl)) (.int .i64 ((k : Int) + 1)))
  have HB1 := Lib.hid ((Below.refl base w).setCell (p := ⟨b, off + 2, none⟩) hbb (.int .i64 ((k : Int) + 1)))
  have hpl1 : pb < (w.setCell ⟨b, off + 2, none⟩ (.int .i64 ((k : Int) + 1))).heap.size := by rw [World.size_setCell]; exact hpl
  have hbase : base ≤ (w.setCell ⟨b, off + 2, none⟩ (.int .i64 ((k : Int) + 1))).heap.size := by have := HH1.out.b0; have := HH1.out.lt; omega
  have HX := Lib.hid hx
  have hw : IntKind.i64.wrap ((k : Int) + 1) = ((k : Int) + 1) := by rw [IntKind.wrap_i64]; omega
  have hw2 : IntKind.i64.wrap ((xs.length : Int) - ((k : Int) + 1)) = ((xs.length - (k + 1) : Nat) : Int) := by rw [IntKind.wrap_i64]; omega
  have hlt : ((xs.length - (k + 1) : Nat) : Int) < xs.length := by omega
  clear hj h hx hcell
  have HTK := Lib.hid (fun W (hW : LkAt Z W base lp mb n R) => drop_c who (xs.getD (xs.length - (k + 1)) 0) base lp mb n R W hW HX.out)
  generalize hR2 : Lk.drop R who (xs.getD (xs.length - (k + 1)) 0) = R2 at *
  generalize xs.getD (xs.length - (k + 1)) 0 = y at *
  have HBE := Lib.hid (fun w' (h : JobAt w' b off (.slice (some ⟨pb, po, none⟩) xs.length cap) took ((k : Int) + 1) true) => behind_c b off _ _ cap took ((k : Int) + 1) 3 true w' h)
  generalize (if (true && (((k : Int) + 1) == (xs.length : Int))) = true then (4 : Int) else 3) = r at *
  go_enter Tryz.func33, Tryz.ntmps33
  go_upto_region 2 with fail
  generalize w.setCell ⟨b, off + 2, none⟩ (.int .i64 ((k : Int) + 1)) = w1 at *
  refine wp_region_steady_tail (fun W => Below w1.heap.size w1 W) 18 (by kernel_rfl) (by kernel_rfl) ((Below.refl _ _).drew) ?_
  iterate 18
    refine steady_val ?_ ?_ (by kernel_rfl) (fun W hS => ?_) ?_ ?_
    rotate_left 2
    · have hJ := HJ1.out.low hS
      have d0 := hJ.c0
      have d2 := hJ.c2
      have dk := (hS.cell (p := ⟨pb, po + (xs.length - (k + 1)), none⟩) hpl1).trans ck
      go_simp
      exact rfl
    · go_simp
      exact rfl
  refine steady_nil ?_
  intro W hW
  simp only [List.drop_succ_cons, List.drop_zero]
  have HW := Lib.hid hW
  clear hW ck
  go_wp2_with fail
  refine (HTK.out W (HH1.out.low HW.out)).mono ?_
  rintro e w2 ⟨rfl, hL, hb, hkz⟩
  have HL2 := Lib.hid hL
  have HB2 := Lib.hid (HB1.out.trans ((HW.out.mono hbase).trans hb))
  have HJ2 := Lib.hid ((HJ1.out.low HW.out).on (hkz b hz))
  have HO2 := Lib.hid (HO1.out.trans ((JobOnly.of_kept (off := off) (KeptZ.below HH1.out HW.out) hz).trans (JobOnly.of_kept hkz hz)))
  clear hL hb hkz
  go_wp2_with fail
  refine (HBE.out w2 HJ2.out).mono ?_
  rintro e w3 ⟨rfl, hb3⟩
  have HL3 := Lib.hid (HL2.out.low hb3)
  have HB3 := Lib.hid (HB2.out.trans (hb3.mono (by have := HL2.out.b0; have := HL2.out.lt; omega)))
  have HJ3 := Lib.hid (HJ2.out.low hb3)
  have HO3 := Lib.hid (HO2.out.trans (JobOnly.of_kept (KeptZ.below HL2.out hb3) hz))
  clear hb3
  go_wp2_with fail
  go_ret
  exact ⟨rfl, HL3.out, HB3.out, HO3.out, HJ3.out⟩
end Go.Proofs.YtjeolfcefeglpabGreat
