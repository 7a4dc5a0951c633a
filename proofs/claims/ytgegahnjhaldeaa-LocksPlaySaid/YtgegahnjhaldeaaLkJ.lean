/-
  Contract of locks.Drop.
-/
import Derived.Test.YtgegahnjhaldeaaLkI
namespace Go.Proofs.Ytgegahnjhaldeaa
open Go.ChangeShapes Go.WideShapes Go.ChangeAt Go.RowKit
variable {Z : Nat → Prop}

namespace Lk
def dropT (R : Int → List Int) (who at_ : Int) : Bool := decide (R at_ ≠ []) && ((R at_).getD 0 0 == who)
/-- The rows when a lock has been given back. -/
def drop (R : Int → List Int) (who at_ : Int) : Int → List Int := if dropT R who at_ = true then upd R at_ (R at_).tail else R
theorem ok_tail {R : Int → List Int} {n : Nat} (h : Ok R n) {i : Int} (hi : R i ≠ []) : Ok (upd R i (R i).tail) n := by
  refine ⟨fun j hj => ?_, fun j x hx => ?_, fun j => ?_⟩
  · by_cases e : j = i
    · subst e; exact absurd (h.out _ hj) hi
    · rw [upd_other R _ e]; exact h.out j hj
  · by_cases e : j = i
    · subst e
      rw [upd_same] at hx
      exact h.who _ _ (List.mem_of_mem_tail hx)
    · rw [upd_other R _ e] at hx; exact h.who _ _ hx
  · by_cases e : j = i
    · subst e
      rw [upd_same]
      exact (h.nod j).sublist (List.tail_sublist _)
    · rw [upd_other R _ e]; exact h.nod j
theorem in_range {R : Int → List Int} {n : Nat} (h : Ok R n) {i : Int} (hi : R i ≠ []) : 0 ≤ i ∧ i < (n : Int) := by
  by_cases e : 0 ≤ i ∧ i < (n : Int)
  · exact e
  · exact absurd (h.out i e) hi
end Lk
theorem FitsL.del {D : DataW Unit} {n : Nat} {hs : Int → Hdr} {R : Int → List Int} (h : FitsL D n hs R) (ht : Maps.Tidy D) {i : Int} (hi : InI i) (h0 : 0 ≤ i) (h1 : i < n) :
    FitsL (D.del (kL i)) n (fun j => if j = i then none else hs j) (Lk.upd R i []) := by
  have hne : ∀ j, j ≠ i → kL j ≠ kL i := fun j hji e => hji (kL_inj e)
  refine ⟨fun j hj => ?_, fun j hj => ?_, ?_⟩
  · by_cases e : j = i
    · subst e; rw [Maps.atKey_del_same, if_pos rfl]
    · rw [Maps.atKey_del_other (hne j e), if_neg e, h.at_ j hj]
  · by_cases e : j = i
    · subst e; rw [Maps.has_del_same, Lk.upd_same]; simp
    · rw [Maps.has_del_other (hne j e), Lk.upd_other R _ e, h.has j hj]
  · obtain ⟨k, rfl⟩ := Int.eq_ofNat_of_zero_le h0
    have c := Lk.cnt_upd R k [] n (by omega)
    have hs := Maps.size_del (k := kL k) ht
    rw [h.has _ hi, h.size] at hs
    rw [if_pos rfl] at c
    by_cases e : R k = []
    · rw [if_pos e] at c
      simp [e] at hs
      omega
    · rw [if_neg e] at c
      simp [e] at hs
      omega
theorem LkAt.gone {w w' : World} {base lp mb n : Nat} {R : Int → List Int} (h : LkAt Z w base lp mb n R) {i : Int} (hi : InI i) (h0 : 0 ≤ i) (h1 : i < n) (hok : Lk.Ok (Lk.upd R i []) n)
    {D : DataW Unit} {hs : Int → Hdr} (hD : w.ownsMap Try.prog KI rowElem mb (Maps.size D) D) (hF : FitsL D n hs R) (hR : ∀ j, InI j → Rw w base (hs j) (R j)) (hX : ∀ j b o m c, InI j → hs j = some (b, o, m, c) → b ≠ lp ∧ b ≠ mb ∧ ¬ Z b)
    (hY : ∀ i j b o m c o' m' c', InI i → InI j → hs i = some (b, o, m, c) → hs j = some (b, o', m', c') → i = j) {k : Nat}
    (hD' : w'.ownsMap Try.prog KI rowElem mb k (D.del (kL i))) (hg : w.grownBy w' (some mb)) : LkAt Z w' base lp mb n (Lk.upd R i []) ∧ Below base w w' := by
  have hbl : ∀ b, b < w.heap.size → b ≠ mb → w'.heap[b]? = w.heap[b]? := fun b hb hne => hg.block b hb (fun e => hne (by cases e; rfl))
  have hmlt : mb < w.heap.size := hD.lt
  refine ⟨⟨hok, h.n0, h.n1, (World.cell?_of_block (w := w) (a := ⟨lp, 0, none⟩) (hbl lp h.lt h.ne)).trans h.c0, (World.cell?_of_block (w := w) (a := ⟨lp, 1, none⟩) (hbl lp h.lt h.ne)).trans h.c1, h.b0, h.b1, Nat.lt_of_lt_of_le h.lt hg.size, h.ne, fun k hk => ⟨Nat.lt_of_lt_of_le (h.flt k hk).1 hg.size, (h.flt k hk).2⟩,
    _, _, own_resetL hD', hF.del (hD.tidy int_law) hi h0 h1, fun j hj => ?_, fun j b o m c hj e => ?_, ?_⟩, ⟨hg.os, hg.tape, hg.output, hg.size, fun b hb => hbl b (Nat.lt_of_lt_of_le hb (by have := h.b1; omega)) (by have := h.b1; omega)⟩⟩
  · by_cases e : j = i
    · subst e
      simp only [if_true]
      rw [Lk.upd_same]
      exact .inl ⟨rfl, rfl⟩
    · simp only [if_neg e]
      rw [Lk.upd_other R _ e]
      rcases hR j hj with hn | ⟨b, o, c, e2, hs2⟩
      · exact .inl hn
      · exact .inr ⟨b, o, c, e2, hs2.keep (hbl b hs2.lt (hX _ _ _ _ _ hj e2).2.1)⟩
  · by_cases e3 : j = i
    · simp only [if_pos e3] at e
      cases e
    · simp only [if_neg e3] at e
      exact hX _ _ _ _ _ hj e
  · intro j k b o m c o' m' c' hj hk e1 e2
    by_cases a1 : j = i
    · simp only [if_pos a1] at e1
      cases e1
    · by_cases a2 : k = i
      · simp only [if_pos a2] at e2
        cases e2
      · simp only [if_neg a1] at e1
        simp only [if_neg a2] at e2
        exact hY _ _ _ _ _ _ _ _ _ hj hk e1 e2
/-- A row without its first number. -/
theorem RwS.tail {w : World} {base b o c : Nat} {xs : List Int} (h : RwS w base b o c xs) (h1 : 1 < xs.length) : RwS w base b (o + 1) (c - 1) xs.tail := by
  have hle := h.le
  have hm := h.max
  refine ⟨by rw [List.length_tail]; omega, by rw [List.length_tail]; omega, by omega, h.base, h.lt, fun j hj => ?_, fun j hj => ?_, fun j hj => ?_, h.ty⟩
  · rw [List.length_tail] at hj
    rw [show o + 1 + j = o + (j + 1) by omega, h.cell (j + 1) (by omega)]
    cases xs with
    | nil => simp at h1
    | cons x l => rfl
  · rw [show o + 1 + j = o + (j + 1) by omega]
    exact h.spare (j + 1) (by omega)
  · rw [show o + 1 + j = o + (j + 1) by omega]
    exact h.froz (j + 1) (by omega)
theorem LkAt.midTail {w : World} {base lp mb n : Nat} {R : Int → List Int} (h : LkAt Z w base lp mb n R) {D : DataW Unit} {hs : Int → Hdr} (hD : w.ownsMap Try.prog KI rowElem mb (Maps.size D) D) (hF : FitsL D n hs R) (hR : ∀ i, InI i → Rw w base (hs i) (R i)) (hX : ∀ i b o m c, InI i → hs i = some (b, o, m, c) → b ≠ lp ∧ b ≠ mb ∧ ¬ Z b)
    (hY : ∀ i j b o m c o' m' c', InI i → InI j → hs i = some (b, o, m, c) → hs j = some (b, o', m', c') → i = j) (i : Int) (hi : InI i) {b o c : Nat} (he : hs i = some (b, o, (R i).length, c)) (hS : RwS w base b o c (R i)) (h1 : 1 < (R i).length) :
    LkMid Z w base lp mb n R i (some (b, o + 1, (R i).tail.length, c - 1)) (R i).tail :=
  ⟨h.ok, h.n0, h.n1, h.c0, h.c1, h.b0, h.b1, h.lt, h.ne, h.flt, .inr ⟨b, o + 1, c - 1, rfl, hS.tail h1⟩, fun e => by have := congrArg List.length e; rw [List.length_tail] at this; simp at this; omega, D, hs, hD, hF, fun j hj _ => hR j hj, hX, hY,
    fun b' o' m c' e => by cases e; exact hX i _ _ _ _ hi he, fun j b' o1 m1 c1 o2 m2 c2 hj hji e e2 => by cases e2; exact hji (hY _ _ _ _ _ _ _ _ _ hj hi e he)⟩
theorem LkMid.low {w w' : World} {base lp mb n : Nat} {R : Int → List Int} {i : Int} {x : Hdr} {l : List Int} (h : LkMid Z w base lp mb n R i x l) (hb : Below w.heap.size w w') : LkMid Z w' base lp mb n R i x l := by
  obtain ⟨D, hs, hD, hF, hR, hX, hY, hx, hy⟩ := h.own
  exact ⟨h.ok, h.n0, h.n1, (hb.cell (p := ⟨lp, 0, none⟩) h.lt).trans h.c0, (hb.cell (p := ⟨lp, 1, none⟩) h.lt).trans h.c1, h.b0, h.b1, Nat.lt_of_lt_of_le h.lt hb.size, h.ne, fun k hk => ⟨Nat.lt_of_lt_of_le (h.flt k hk).1 hb.size, (h.flt k hk).2⟩, h.new.low hb, h.full, D, hs,
    hD.kept (row := none) ⟨hb.os, hb.tape, hb.output, hb.size, fun i hi _ => hb.block i hi⟩ (by simp), hF, fun j hj hji => (hR j hj hji).low hb, hX, hY, hx, hy⟩
set_option maxHeartbeats 4000000 in
theorem drop_c (who at_ : Int) (base lp mb n : Nat) (R : Int → List Int) (w : World) (h : LkAt Z w base lp mb n R) (ha : InI at_) :
    Calls Try.prog 10 #[.pointer (some ⟨lp, 0, none⟩), .int .i64 who, .int .i64 at_] w fun e w' => e = .returned (.bool (Lk.dropT R who at_)) ∧ LkAt Z w' base lp mb n (Lk.drop R who at_) ∧ Below base w w' ∧ KeptZ Z w w' := by
  have HH := Lib.hid h
  have hbase : base ≤ w.heap.size := by have := h.b0; have := h.lt; omega
  obtain ⟨D, hs, hD, hF, hR, hX, hY⟩ := h.own
  have HRow := Lib.hid (rowH_c at_ base lp mb n R w h hD hF ha)
  have HHo := Lib.hid (holder_c (.pointer (some ⟨lp, 0, none⟩)) at_ n R w (.inr ⟨_, base, lp, mb, rfl, h⟩) ha)
  have hlen := h.ok.len at_
  have HD := Lib.hid hD
  have HF := Lib.hid hF
  have HR := Lib.hid hR
  have HX := Lib.hid hX
  have HY := Lib.hid hY
  have cm := h.c1
  clear h hD hF hR hX hY
  rcases HR.out at_ ha with ⟨e2, e3⟩ | ⟨b, o, c, e2, hS⟩
  · have HT := Lib.hid (show Lk.dropT R who at_ = false by unfold Lk.dropT; rw [e3]; rfl)
    have HN := Lib.hid (show Lk.drop R who at_ = R by unfold Lk.drop; rw [HT.out]; simp)
    rw [show decide (R at_ ≠ []) = false by rw [e3]; rfl] at HHo
    generalize (R at_).getD 0 0 = y at *
    go_enter Try.func10, Try.ntmps10
    go_wp2_with fail
    refine HHo.out.mono ?_
    rintro e w' ⟨rfl, rfl⟩
    go_wp2_with fail
    go_ret
    exact ⟨by rw [HT.out]; rfl, by rw [HN.out]; exact HH.out, Below.refl _ _, KeptZ.refl _⟩
  · have hpos := hS.pos
    have HNE := Lib.hid (show R at_ ≠ [] from fun e => by rw [e] at hpos; simp at hpos)
    rw [show decide (R at_ ≠ []) = true from decide_eq_true HNE.out] at HHo
    have HRG := Lib.hid (Lk.in_range HH.out.ok HNE.out)
    have HOK := Lib.hid (Lk.ok_tail HH.out.ok HNE.out)
    cases hq : ((R at_).getD 0 0 == who)
    · have HT := Lib.hid (show Lk.dropT R who at_ = false by unfold Lk.dropT; rw [hq]; simp)
      have HN := Lib.hid (show Lk.drop R who at_ = R by unfold Lk.drop; rw [HT.out]; simp)
      have hq2 : ((R at_).getD 0 0 != who) = true := by rw [bne, hq]; rfl
      generalize (R at_).getD 0 0 = y at *
      go_enter Try.func10, Try.ntmps10
      go_wp2_with fail
      refine HHo.out.mono ?_
      rintro e w' ⟨rfl, rfl⟩
      go_wp2_with fail
      go_ret
      exact ⟨by rw [HT.out]; rfl, by rw [HN.out]; exact HH.out, Below.refl _ _, KeptZ.refl _⟩
    · have HT := Lib.hid (show Lk.dropT R who at_ = true by unfold Lk.dropT; rw [hq, decide_eq_true HNE.out]; rfl)
      have HN := Lib.hid (show Lk.drop R who at_ = Lk.upd R at_ (R at_).tail by unfold Lk.drop; rw [HT.out]; simp)
      have hq2 : ((R at_).getD 0 0 != who) = false := by rw [bne, hq]; rfl
      have HS := Lib.hid hS
      have HE2 := Lib.hid e2
      have HE3 := Lib.hid (show hdV (hs at_) = Value.slice (some ⟨b, o, none⟩) (R at_).length c by rw [e2]; rfl)
      have hle := hS.le
      generalize (R at_).getD 0 0 = y at *
      clear hS e2
      go_enter Try.func10, Try.ntmps10
      go_wp2_with fail
      refine HHo.out.mono ?_
      rintro e w' ⟨rfl, rfl⟩
      go_wp2_with fail
      refine HRow.out.mono ?_
      rintro e w' ⟨rfl, rfl⟩
      rw [HE3.out]
      by_cases h1 : 1 < (R at_).length
      · have g1 : (1 : Int) < (R at_).length := by omega
        go_upto_region 6 with fail
        have HM := Lib.hid (HH.out.midTail HD.out HF.out HR.out HX.out HY.out at_ ha HE2.out HS.out h1)
        have HVV := Lib.hid (show Value.slice (some ⟨b, o + 1, none⟩) ((R at_).length - 1) (c - 1) = hdV (some (b, o + 1, (R at_).tail.length, c - 1)) by rw [List.length_tail]; rfl)
        have g4 : ((R at_).length : Int) ≤ c := by omega
        have g5 : 1 < c := by omega
        refine wp_region_steady_tail (fun W => LkMid Z W base lp mb n R at_ (some (b, o + 1, (R at_).tail.length, c - 1)) (R at_).tail ∧ Below w.heap.size w W) 7 (by kernel_rfl) (by kernel_rfl) ⟨HM.out.low (Below.refl _ _).drew, (Below.refl _ _).drew⟩ ?_
        iterate 6
          refine steady_val ?_ ?_ (by kernel_rfl) (fun W hS => ?_) ?_ ?_
          rotate_left 2
          · have c1 := hS.1.c1; go_simp
            exact rfl
          · go_simp
            exact rfl
        refine steady_val (Value.slice (some ⟨b, o + 1, none⟩) ((R at_).length - 1) (c - 1)) ?_ (by kernel_rfl) (fun W hS => ?_) ?_ ?_
        rotate_left 1
        · go_simp
          rw [if_pos (by omega), if_neg (by omega)]
        · go_simp
          exact rfl
        refine steady_nil ?_
        rintro W ⟨hW1, hW2⟩
        simp only [List.drop_succ_cons, List.drop_zero]
        have HM2 := Lib.hid hW1
        have HB2 := Lib.hid (hW2.mono hbase)
        have HZ1 := Lib.hid (And.intro (KeptZ.below HH.out hW2) hW2.size)
        clear hW1 hW2
        refine wpList_lk_put rfl _ _ _ rfl HM2.out ha HRG.out.1 HRG.out.2 HOK.out rfl rfl HVV.out ?_
        intro w3 h3 o3 hk3
        have HK := Lib.hid (And.intro h3 (HB2.out.trans o3))
        have HZ2 := Lib.hid (HZ1.out.1.step HH.out HZ1.out.2 hk3)
        clear h3 o3 hk3
        go_wp2_with fail
        go_ret
        exact ⟨by rw [HT.out]; rfl, by rw [HN.out]; exact HK.out.1, HK.out.2, HZ2.out⟩
      · have e1 : (R at_).length = 1 := by omega
        have HTL := Lib.hid (show (R at_).tail = [] from len_zero (by rw [List.length_tail]; omega))
        rw [e1]
        go_wp2_with (at_delete; refine wpList_delete_own _ rfl _ _ 63 KI rfl 36 int_law Try.underlying63 rowElem mb (Maps.size D) D rfl HD.out _ _ rfl (key_int ha) ?_)
        intro w2 hd hg
        have HG := Lib.hid (HH.out.gone ha HRG.out.1 HRG.out.2 (by have := HOK.out; rwa [HTL.out] at this) HD.out HF.out HR.out HX.out HY.out hd hg.grown)
        have HZ2 := Lib.hid (show KeptZ Z w w2 from fun k hk => hg.grown.block k (HH.out.flt k hk).1 (fun e => (HH.out.flt k hk).2 (by cases e; rfl)))
        clear hd hg
        go_wp2_with fail
        go_ret
        exact ⟨by rw [HT.out]; rfl, by rw [HN.out, HTL.out]; exact HG.out.1, HG.out.2, HZ2.out⟩
end Go.Proofs.Ytgegahnjhaldeaa
