/-
  Contract of locks.Take.
-/
import Derived.Test.YtgegahnjhaldeaaLkG
namespace Go.Proofs.Ytgegahnjhaldeaa
open Go.ChangeShapes Go.WideShapes Go.ChangeAt Go.RowKit
variable {Z : Nat → Prop}

namespace Lk
/-- The rows when a lock has been taken, or is waited for. -/
def take (R : Int → List Int) (n : Nat) (who at_ : Int) : Int → List Int :=
  if has who at_ n = true then (if (R at_).any (fun y => who == y) = true then R else upd R at_ (R at_ ++ [who])) else R
def takeT (R : Int → List Int) (n : Nat) (who at_ : Int) : Bool := has who at_ n && ((take R n who at_ at_).getD 0 0 == who)
theorem any_mem (who : Int) (xs : List Int) : xs.any (fun y => who == y) = true ↔ who ∈ xs := by
  rw [List.any_eq_true]
  constructor
  · rintro ⟨x, hx, e⟩
    rw [show who = x by simpa using e]
    exact hx
  · exact fun h => ⟨who, h, by simp⟩
theorem ok_take {R : Int → List Int} {n : Nat} (h : Ok R n) {who at_ : Int} (hh : has who at_ n = true) (hn : (R at_).any (fun y => who == y) = false) : Ok (upd R at_ (R at_ ++ [who])) n := by
  obtain ⟨a1, a2, a3, a4⟩ := has_iff.1 hh
  have hm : who ∉ R at_ := fun e => by rw [(any_mem who (R at_)).2 e] at hn; cases hn
  refine ⟨fun i hi => ?_, fun i x hx => ?_, fun i => ?_⟩
  · rw [upd_other R _ (by omega)]; exact h.out i hi
  · by_cases e : i = at_
    · subst e
      rw [upd_same, List.mem_append] at hx
      rcases hx with hx | hx
      · exact h.who _ _ hx
      · obtain rfl : x = who := by simpa using hx
        omega
    · rw [upd_other R _ e] at hx; exact h.who _ _ hx
  · by_cases e : i = at_
    · subst e
      rw [upd_same, List.nodup_append]
      refine ⟨h.nod _, by simp, fun a ha b hb => ?_⟩
      obtain rfl : b = who := by simpa using hb
      exact fun e => hm (e ▸ ha)
    · rw [upd_other R _ e]; exact h.nod i
end Lk
/-- A row is built anew, in memory that the call made. -/
theorem LkAt.midNew {w w' : World} {base lp mb n : Nat} {R : Int → List Int} (h : LkAt Z w base lp mb n R) (hb : Below w.heap.size w w') (i : Int) {v : Value} {l : List Int} (hl : 0 < l.length) (hr : w'.ownsRow w.heap.size 3 1 v l.length (iV l)) :
    ∃ x, v = hdV x ∧ LkMid Z w' base lp mb n R i x l := by
  obtain ⟨D, hs, hD, hF, hR, hX, hY⟩ := h.own
  rcases hr.2 with ⟨-, h0⟩ | ⟨g, cap, cur, rfl, h1, h2, h3, h4, h5, h6⟩
  · omega
  · have hlt := h.lt
    have hml := h.mlt
    have hb0 := h.b0
    have hgl : g < w'.heap.size := (Array.getElem?_eq_some_iff.1 h2).1
    have hbb : ∀ j b o m c, InI j → hs j = some (b, o, m, c) → b < w.heap.size := fun j b o m c hj e => by
      rcases hR j hj with ⟨e2, -⟩ | ⟨b', o', c', e2, hs2⟩
      · rw [e2] at e; cases e
      · rw [e2] at e; cases e; exact hs2.lt
    refine ⟨some (g, 0, l.length, cap), rfl, h.ok, h.n0, h.n1, (hb.cell (p := ⟨lp, 0, none⟩) hlt).trans h.c0, (hb.cell (p := ⟨lp, 1, none⟩) hlt).trans h.c1, h.b0, h.b1, Nat.lt_of_lt_of_le hlt hb.size, h.ne, fun k hk => ⟨Nat.lt_of_lt_of_le (h.flt k hk).1 hb.size, (h.flt k hk).2⟩,
      .inr ⟨g, 0, cap, rfl, hl, h3, h4, by omega, hgl, fun j hj => ?_, fun j hj => ?_, fun j hj => ?_, _, h2⟩, fun e => by simp [e] at hl, D, hs, hD.kept (row := none) ⟨hb.os, hb.tape, hb.output, hb.size, fun k hk _ => hb.block k hk⟩ (by simp), hF, fun j hj _ => (hR j hj).low hb, hX, hY,
      fun b o m c e => by cases e; exact ⟨by omega, by omega, fun hz => by have := (h.flt _ hz).1; omega⟩, fun j b o m c o' m' c' hj _ e e2 => by cases e2; have := hbb j _ _ _ _ hj e; omega⟩
    · rw [Nat.zero_add, hr.cellAt j (by omega), iV_at l j hj]
    · rw [Nat.zero_add, cell_of_row w' g j _ _ _ h2, Array.getElem?_eq_getElem (by omega)]
      rfl
    · exact frozen_of_row w' g _ _ _ h2
/-- A row has room: one more number is laid behind it. -/
theorem LkAt.midRoom {w : World} {base lp mb n : Nat} {R : Int → List Int} (h : LkAt Z w base lp mb n R) {D : DataW Unit} {hs : Int → Hdr} (hD : w.ownsMap Try.prog KI rowElem mb (Maps.size D) D) (hF : FitsL D n hs R) (hR : ∀ i, InI i → Rw w base (hs i) (R i)) (hX : ∀ i b o m c, InI i → hs i = some (b, o, m, c) → b ≠ lp ∧ b ≠ mb ∧ ¬ Z b)
    (hY : ∀ i j b o m c o' m' c', InI i → InI j → hs i = some (b, o, m, c) → hs j = some (b, o', m', c') → i = j) (i x : Int) (hi : InI i) {b o c : Nat} (he : hs i = some (b, o, (R i).length, c)) (hS : RwS w base b o c (R i)) (hroom : (R i).length < c) :
    LkMid Z (w.setCell ⟨b, o + (R i).length, none⟩ (.int .i64 x)) base lp mb n R i (some (b, o, (R i ++ [x]).length, c)) (R i ++ [x]) := by
  obtain ⟨n1, n2, n3⟩ := hX i b o _ c hi he
  have hblk : ∀ k, k ≠ b → (w.setCell ⟨b, o + (R i).length, none⟩ (.int .i64 x)).heap[k]? = w.heap[k]? := fun k hk => heap_setCell_other w ⟨b, o + (R i).length, none⟩ k _ hk
  have hcl : ∀ k, k ≠ o + (R i).length → (w.setCell ⟨b, o + (R i).length, none⟩ (.int .i64 x)).cell? ⟨b, k, none⟩ = w.cell? ⟨b, k, none⟩ := fun k hk => by
    apply World.cell?_setCell_other
    intro e
    exact hk (by cases e; rfl)
  have hme : (w.setCell ⟨b, o + (R i).length, none⟩ (.int .i64 x)).cell? ⟨b, o + (R i).length, none⟩ = some (.int .i64 x) := World.cell?_setCell_same' _ _ _ (hS.spare _ hroom)
  have hsz : (w.setCell ⟨b, o + (R i).length, none⟩ (.int .i64 x)).heap.size = w.heap.size := World.size_setCell ..
  refine ⟨h.ok, h.n0, h.n1, (World.cell?_of_block (w := w) (a := ⟨lp, 0, none⟩) (hblk lp (by omega))).trans h.c0, (World.cell?_of_block (w := w) (a := ⟨lp, 1, none⟩) (hblk lp (by omega))).trans h.c1, h.b0, h.b1, by rw [hsz]; exact h.lt, h.ne, fun k hk => by rw [hsz]; exact h.flt k hk,
    .inr ⟨b, o, c, rfl, by simp, by simp; omega, hS.max, hS.base, by rw [hsz]; exact hS.lt, fun j hj => ?_, fun j hj => ?_, fun j hj => ?_, hS.ty.elim fun cur hc => ⟨_, heap_setCell_same w b _ _ _ _ hc⟩⟩, by simp, D, hs, hD.setCell (a := ⟨b, o + (R i).length, none⟩) (by show mb ≠ b; omega) _, hF, fun j hj hji => ?_, hX, hY,
    fun b' o' m c' e => by cases e; exact ⟨n1, n2, n3⟩, fun j b' o1 m1 c1 o2 m2 c2 hj hji e e2 => ?_⟩
  · by_cases ej : j = (R i).length
    · subst ej
      rw [hme]
      simp [List.getD]
    · have hj' : j < (R i).length := by simp at hj; omega
      rw [hcl _ (by omega), hS.cell j hj']
      simp [List.getD, List.getElem?_append_left hj']
  · by_cases ej : j = (R i).length
    · subst ej
      rw [hme]
      rfl
    · rw [hcl _ (by omega)]
      exact hS.spare j hj
  · rw [World.frozen?_setCell]
    exact hS.froz j hj
  · rcases hR j hj with hn | ⟨b', o', c', e2, hs2⟩
    · exact .inl hn
    · exact .inr ⟨b', o', c', e2, hs2.keep (hblk b' (fun e => hji (by subst e; exact hY _ _ _ _ _ _ _ _ _ hj hi e2 he)))⟩
  · cases e2
    exact hji (hY _ _ _ _ _ _ _ _ _ hj hi e he)
theorem info_intX : ∃ i, Try.prog.info? 3 = some i ∧ i.zero = some (.int .i64 0) ∧ i.size = 1 ∧ i.bytes = 8 := by
  obtain ⟨i, hi, hz⟩ := Option.map_eq_some_iff.1 info_intL
  simp only [Prod.mk.injEq] at hz
  exact ⟨i, hi, hz⟩
theorem setCells_one (w : World) (b o : Nat) (v : Value) : w.setCells b o [v] = w.setCell ⟨b, o, none⟩ v := rfl
theorem alloc_below (w : World) (o : Obj) : Below w.heap.size w (w.alloc o) := (Below.refl w.heap.size w).alloc (Nat.le_refl _) o
theorem any_none (who : Int) (xs : List Int) (h : xs = []) : xs.any (fun y => who == y) = false := by subst h; rfl
theorem KeptZ.step {w w' w2 : World} {base lp mb n : Nat} {R : Int → List Int} (hL : LkAt Z w base lp mb n R) (h1 : KeptZ Z w w') (hs : w.heap.size ≤ w'.heap.size) (hk2 : ∀ k, k < w'.heap.size → k ≠ mb → w2.heap[k]? = w'.heap[k]?) : KeptZ Z w w2 :=
  fun k hk => (hk2 k (Nat.lt_of_lt_of_le (hL.flt k hk).1 hs) (hL.flt k hk).2).trans (h1 k hk)
theorem KeptZ.below {w w' : World} {base lp mb n : Nat} {R : Int → List Int} (hL : LkAt Z w base lp mb n R) (hb : Below w.heap.size w w') : KeptZ Z w w' := fun k hk => hb.block k (hL.flt k hk).1
set_option maxHeartbeats 4000000 in
theorem take_c (who at_ : Int) (base lp mb n : Nat) (R : Int → List Int) (w : World) (h : LkAt Z w base lp mb n R) (ha : InI at_) :
    Calls Try.prog 12 #[.pointer (some ⟨lp, 0, none⟩), .int .i64 who, .int .i64 at_] w fun e w' => e = .returned (.bool (Lk.takeT R n who at_)) ∧ LkAt Z w' base lp mb n (Lk.take R n who at_) ∧ Below base w w' ∧ KeptZ Z w w' := by
  have HL := Lib.hid (show LkV w (.pointer (some ⟨lp, 0, none⟩)) n R from .inr ⟨_, base, lp, mb, rfl, h⟩)
  have HH := Lib.hid h
  have hbase : base ≤ w.heap.size := by have := h.b0; have := h.lt; omega
  obtain ⟨D, hs, hD, hF, hR, hX, hY⟩ := h.own
  have HRow := Lib.hid (rowH_c at_ base lp mb n R w h hD hF ha)
  have HD := Lib.hid hD
  have HF := Lib.hid hF
  have HR := Lib.hid hR
  have HX := Lib.hid hX
  have HY := Lib.hid hY
  have hlen := h.ok.len at_
  clear h hD hF hR hX hY
  go_enter Try.func12, Try.ntmps12
  go_wp2_with fail
  refine (has_c _ who at_ _ _ _ HL.out).mono ?_
  rintro e w' ⟨rfl, rfl⟩
  cases hh : Lk.has who at_ n
  · have HT := Lib.hid (show Lk.takeT R n who at_ = false by unfold Lk.takeT; rw [hh]; rfl)
    have HN := Lib.hid (show Lk.take R n who at_ = R by unfold Lk.take; rw [hh]; simp)
    go_wp2_with fail
    go_ret
    exact ⟨by rw [HT.out]; rfl, by rw [HN.out]; exact HH.out, Below.refl _ _, KeptZ.refl _⟩
  · have HHH := Lib.hid hh
    obtain ⟨a1, a2, a3, a4⟩ := Lk.has_iff.1 hh
    clear hh
    go_wp2_with fail
    refine HRow.out.mono ?_
    rintro e w' ⟨rfl, rfl⟩
    rcases HR.out at_ ha with ⟨e2, e3⟩ | ⟨b, o, c, e2, hS⟩
    · -- the lock is free
      have HC := Lib.hid (any_none who (R at_) e3)
      have HN := Lib.hid (show Lk.take R n who at_ = Lk.upd R at_ [who] by unfold Lk.take; rw [HHH.out, HC.out, e3]; simp)
      have HT := Lib.hid (show Lk.takeT R n who at_ = true by unfold Lk.takeT; rw [HHH.out, HN.out, Lk.upd_same]; simp)
      have HOK := Lib.hid (show Lk.Ok (Lk.upd R at_ [who]) n by have := Lk.ok_take HH.out.ok HHH.out HC.out; rwa [e3] at this)
      rw [e2, show hdV none = Value.slice none 0 0 from rfl]
      clear e2 e3 HR HX HY HD HF HRow
      go_wp2_with fail
      refine (contains_c none 0 [] _ _ (.inl rfl) (by simp)).mono ?_
      rintro e w' ⟨rfl, rfl⟩
      go_wp2_with (at_builtin; refine wpList_push rfl _ _ 36 rfl w.heap.size 3 _ 1 8 Try.underlying36 info_intL rfl (by omega) (by omega) (.slice none 0 0) 0 [] rfl (World.ownsRow_nil _ _ _ _) #[.int .i64 who] rfl (one_int who) _ rfl rfl (by omega) (Nat.le_refl _) ?_)
      intro v' w' hown hb
      have hown2 := Lib.hid hown
      obtain ⟨x, hx, hM⟩ := HH.out.midNew hb at_ (l := [who]) (by simp) hown
      obtain ⟨g, cap, rfl, hg1, hg2, -⟩ := own_pos hown (by omega)
      have HM := Lib.hid hM
      have HB := Lib.hid (hb.mono hbase)
      have HXX := Lib.hid hx
      have cm := hM.c1
      have hcell := hown2.out.cellAt 0 (by omega)
      have hgm : g ≠ mb := by have := HH.out.mlt; omega
      have HZ1 := Lib.hid (And.intro (KeptZ.below HH.out hb) hb.size)
      clear hb hown hown2 hM hx
      go_wp2_with (at_mapUpdate; refine wpList_lk_put rfl _ _ _ rfl HM.out ha a3 a4 HOK.out rfl rfl HXX.out ?_)
      intro w2 hL2 hb2 hk2
      have c0 := (World.cell?_of_block (w := w') (a := ⟨g, 0, none⟩) (hk2 g hg2 hgm)).trans hcell
      have HL2 := Lib.hid hL2
      have HB2 := Lib.hid (HB.out.trans hb2)
      have HZ2 := Lib.hid (HZ1.out.1.step HH.out HZ1.out.2 hk2)
      clear hL2 hb2 hk2 hcell cm
      go_wp2_with fail
      go_ret
      exact ⟨by rw [HT.out]; rfl, by rw [HN.out]; exact HL2.out, HB2.out, HZ2.out⟩
    · -- it has a row
      have hpos := hS.pos
      have HV := Lib.hid (show Vw w (some ⟨b, o, none⟩) (iV (R at_)) from .inr ⟨b, o, rfl, hS.lt, fun j u hj => by
        have hl : j < (R at_).length := by
          have := (List.getElem?_eq_some_iff.1 hj).1
          rwa [iV_len] at this
        rw [hS.cell j hl, ← hj, iV_at _ j hl]⟩)
      have HS := Lib.hid hS
      have HE2 := Lib.hid e2
      rw [e2, show hdV (some (b, o, (R at_).length, c)) = Value.slice (some ⟨b, o, none⟩) (R at_).length c from rfl]
      have c00 := hS.cell 0 hpos
      rw [Nat.add_zero] at c00
      clear hS e2 HRow
      go_wp2_with fail
      refine (contains_c _ _ _ _ _ HV.out (by omega)).mono ?_
      rintro e w' ⟨rfl, rfl⟩
      cases hc : (R at_).any (fun y => who == y)
      · have HC := Lib.hid hc
        have HN := Lib.hid (show Lk.take R n who at_ = Lk.upd R at_ (R at_ ++ [who]) by unfold Lk.take; rw [HHH.out, hc]; simp)
        have HT := Lib.hid (show Lk.takeT R n who at_ = ((R at_).getD 0 0 == who) by
          unfold Lk.takeT
          rw [HHH.out, HN.out, Lk.upd_same, Bool.true_and, List.getD, List.getD, List.getElem?_append_left hpos])
        have HOK := Lib.hid (Lk.ok_take HH.out.ok HHH.out hc)
        have hal := alloc_below w (.cells #[.int .i64 who] 3)
        have HA := Lib.hid hal
        have hS1 := HS.out.keep (hal.block b HS.out.lt)
        have HL1 := Lib.hid (HH.out.low hal)
        have HX1 := Lib.hid (CsAt.new w 3 #[.int .i64 who])
        have HS1 := Lib.hid hS1
        have HM := Lib.hid (fun hr => HL1.out.midRoom (HD.out.alloc _) HF.out (fun i hi => (HR.out i hi).low HA.out) HX.out HY.out at_ who ha HE2.out HS1.out hr)
        have HSZ := Lib.hid (show (w.alloc (.cells #[.int .i64 who] 3)).heap.size = w.heap.size + 1 by simp)
        have HLE := Lib.hid (show (iV (R at_)).length = (R at_).length * 1 by rw [iV_len, Nat.mul_one])
        have HOL := Lib.hid (show ∀ j u, (iV (R at_))[j]? = some u → (w.alloc (.cells #[.int .i64 who] 3)).cell? ⟨b, o + j, none⟩ = some u from fun j u hj => by
          have hl : j < (R at_).length := by
            have := (List.getElem?_eq_some_iff.1 hj).1
            rwa [iV_len] at this
          rw [HS1.out.cell j hl, ← hj, iV_at _ j hl])
        have HNW := Lib.hid (show ∀ j u, [Value.int .i64 who][j]? = some u → (w.alloc (.cells #[.int .i64 who] 3)).cell? ((⟨w.heap.size, 0, none⟩ : Addr).add j) = some u from fun j u hj => by
          rw [add_plain, Nat.zero_add, HX1.out.cell]
          simpa using hj)
        have HSP := Lib.hid (show (R at_).length + 1 ≤ c → ∀ j, j < [Value.int .i64 who].length → ((w.alloc (.cells #[.int .i64 who] 3)).cell? ⟨b, o + (R at_).length * 1 + j, none⟩).isSome = true ∧ (w.alloc (.cells #[.int .i64 who] 3)).frozen? ⟨b, o + (R at_).length * 1 + j, none⟩ = false from fun hr j hj => by
          have : j = 0 := by simpa using hj
          subst this
          rw [Nat.mul_one, Nat.add_zero]
          exact ⟨HS1.out.spare _ (by omega), HS1.out.froz _ (by omega)⟩)
        obtain ⟨ii, hii, hz0, hz1, hz2⟩ := info_intX
        have HLEN := Lib.hid hlen
        have HBM := Lib.hid (HX.out at_ b o _ c ha HE2.out)
        have HBS := Lib.hid HS.out.base
        have HML := Lib.hid HH.out.mlt
        clear hS1 hal hc HR HX HY HD HF
        go_wp2_with (at_builtin; refine wpList_append_arg _ rfl _ _ 36 rfl 3 ii (.int .i64 0) 1 8 Try.underlying36 hii hz0 hz1 hz2 rfl (by decide) b o (R at_).length c (iV (R at_)) rfl HLE.out HOL.out ⟨w.heap.size, 0, none⟩ 1 1 [.int .i64 who] rfl rfl HNW.out (by simp [Value.oneCell']) HSP.out (by unfold maxLen; omega) (by omega) ?_ ?_)
        · intro hroom
          have hM := HM.out (by omega)
          have hB1 := HA.out.mono hbase |>.setCell (p := ⟨b, o + (R at_).length, none⟩) HBS.out (.int .i64 who)
          rw [setCells_one]
          have HZ1 := Lib.hid (show KeptZ Z w ((w.alloc (.cells #[.int .i64 who] 3)).setCell ⟨b, o + (R at_).length, none⟩ (.int .i64 who)) ∧ w.heap.size ≤ ((w.alloc (.cells #[.int .i64 who] 3)).setCell ⟨b, o + (R at_).length, none⟩ (.int .i64 who)).heap.size from
            ⟨fun k hk => (heap_setCell_other _ ⟨b, o + (R at_).length, none⟩ k _ (show k ≠ b from fun e => HBM.out.2.2 (e ▸ hk))).trans (HA.out.block k (HH.out.flt k hk).1), by rw [World.size_setCell]; exact HA.out.size⟩)
          have hbl : b < ((w.alloc (.cells #[.int .i64 who] 3)).setCell ⟨b, o + (R at_).length, none⟩ (.int .i64 who)).heap.size := by rw [World.size_setCell]; exact HS1.out.lt
          generalize (w.alloc (.cells #[.int .i64 who] 3)).setCell ⟨b, o + (R at_).length, none⟩ (.int .i64 who) = W2 at *
          have hcc : W2.cell? ⟨b, o, none⟩ = some (.int .i64 ((R at_).getD 0 0)) := by
            rcases hM.new with ⟨e, -⟩ | ⟨b', o', c', e, hS'⟩
            · cases e
            · cases e
              have := hS'.cell 0 (by simp)
              rw [Nat.add_zero, List.getD, List.getElem?_append_left hpos] at this
              exact this
          have HVV := Lib.hid (show Value.slice (some ⟨b, o, none⟩) ((R at_).length + 1) c = hdV (some (b, o, (R at_ ++ [who]).length, c)) by simp [hdV])
          have HM2 := Lib.hid hM
          have HB1 := Lib.hid hB1
          have cm := hM.c1
          clear hM hB1 HM HSP HNW HOL HX1 HS1 HA HL1 HSZ
          go_wp2_with (at_mapUpdate; refine wpList_lk_put rfl _ _ _ rfl HM2.out ha a3 a4 HOK.out rfl rfl HVV.out ?_)
          intro w2 hL2 hb2 hk2
          have c0 := (World.cell?_of_block (w := W2) (a := ⟨b, o, none⟩) (hk2 b hbl HBM.out.2.1)).trans hcc
          have HL2 := Lib.hid hL2
          have HB2 := Lib.hid (HB1.out.trans hb2)
          have g : (0 : Int) < ((R at_).length + 1 : Nat) := by omega
          generalize hy : (R at_).getD 0 0 = y at *
          have HZ2 := Lib.hid (HZ1.out.1.step HH.out HZ1.out.2 hk2)
          clear hL2 hb2 hk2 hcc cm
          go_wp2_with fail
          go_ret
          exact ⟨by rw [HT.out]; rfl, by rw [HN.out]; exact HL2.out, HB2.out, HZ2.out⟩
        · intro hfull v' w' hown hg
          have hb := (Below.refl (w.alloc (.cells #[.int .i64 who] 3)).heap.size (w.alloc (.cells #[.int .i64 who] 3))).grown hg (Nat.le_refl _) (fun r hr => by cases hr)
          have hown2 : w'.ownsRow (w.alloc (.cells #[.int .i64 who] 3)).heap.size 3 1 v' (R at_ ++ [who]).length (iV (R at_ ++ [who])) := by simpa using hown
          obtain ⟨x, hx, hM⟩ := HL1.out.midNew hb at_ (l := R at_ ++ [who]) (by simp) hown2
          obtain ⟨g, cap, rfl, hg1, hg2, -⟩ := own_pos hown (by omega)
          have HM2 := Lib.hid hM
          have HB := Lib.hid ((HA.out.mono hbase).trans (hb.mono (by have := HSZ.out; omega)))
          have HXX := Lib.hid hx
          have cm := hM.c1
          have hcell := hown.cellAt 0 (by omega)
          have hcc : w'.cell? ⟨g, 0, none⟩ = some (.int .i64 ((R at_).getD 0 0)) := by
            rw [hcell, List.getElem?_append_left (by rw [iV_len]; exact hpos), iV_at _ 0 hpos]
          have hgm : g ≠ mb := by have := HML.out; have := HSZ.out; omega
          have HZ1 := Lib.hid (And.intro (KeptZ.below HH.out (HA.out.trans (hb.mono HA.out.size))) (HA.out.trans (hb.mono HA.out.size)).size)
          clear hb hown hown2 hM hx hcell HM HSP HNW HOL HX1 HS1 HA HSZ hg
          go_wp2_with (at_mapUpdate; refine wpList_lk_put rfl _ _ _ rfl HM2.out ha a3 a4 HOK.out rfl rfl HXX.out ?_)
          intro w2 hL2 hb2 hk2
          have c0 := (World.cell?_of_block (w := w') (a := ⟨g, 0, none⟩) (hk2 g hg2 hgm)).trans hcc
          have HL2 := Lib.hid hL2
          have HB2 := Lib.hid (HB.out.trans hb2)
          have gg : (0 : Int) < ((R at_).length + 1 : Nat) := by omega
          generalize hy : (R at_).getD 0 0 = y at *
          have HZ2 := Lib.hid (HZ1.out.1.step HH.out HZ1.out.2 hk2)
          clear hL2 hb2 hk2 hcc cm
          go_wp2_with fail
          go_ret
          exact ⟨by rw [HT.out]; rfl, by rw [HN.out]; exact HL2.out, HB2.out, HZ2.out⟩
      · have HC := Lib.hid hc
        have HN := Lib.hid (show Lk.take R n who at_ = R by unfold Lk.take; rw [HHH.out, hc]; simp)
        have HT := Lib.hid (show Lk.takeT R n who at_ = ((R at_).getD 0 0 == who) by unfold Lk.takeT; rw [HHH.out, HN.out]; rfl)
        have g : (0 : Int) < (R at_).length := by omega
        generalize hy : (R at_).getD 0 0 = y at *
        clear hc
        go_wp2_with fail
        go_ret
        exact ⟨by rw [HT.out]; rfl, by rw [HN.out]; exact HH.out, Below.refl _ _, KeptZ.refl _⟩
end Go.Proofs.Ytgegahnjhaldeaa
